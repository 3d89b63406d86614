/-
  Contract of the reference of manifest: Of.
-/
import Derived.Test.YtebkgndcgcdogaaVb
import Derived.Test.YtebkgndcgcdogaaChF
import Derived.Test.YtebkgndcgcdogaaMkC
import Derived.Deep.RegionHeld3
import Derived.Deep.RegionLaw
import Derived.Deep.AppendLies
namespace Go.Proofs.Ytebkgndcgcdogaa
open Go.RowKit
set_option maxHeartbeats 2000000

/-- a version and an error, as an answer -/
def Vm.RetV (B : Nat) (w : World) (r : Int × List Vm.Nm × Int) (e : Ending) (w' : World) : Prop :=
  ∃ v, e = .returned (.tuple #[.agg #[.int .i64 r.1, v], .int .i64 r.2.2]) ∧ NamesOwn w' B v r.2.1 ∧ Below B w w'

theorem Vm.ofV_range {num : Int} (l : List (List UInt8)) (h : num < 1 ∨ 2147483647 ≤ num) : Vm.ofV num l = (0, [], 1) := by unfold Vm.ofV; rw [if_pos h]
theorem Vm.ofV_limit {num : Int} {l : List (List UInt8)} (h : ¬ (num < 1 ∨ 2147483647 ≤ num)) (h2 : 256 < l.length) : Vm.ofV num l = (0, [], 4) := by unfold Vm.ofV; rw [if_neg h, if_pos h2]
theorem Vm.ofV_form {num : Int} {l : List (List UInt8)} (h : ¬ (num < 1 ∨ 2147483647 ≤ num)) (h2 : ¬ 256 < l.length) {i : Nat} (hi : i < l.length) (hf : Vm.okC l[i] = false) : Vm.ofV num l = (0, [], 2) := by
  unfold Vm.ofV; rw [if_neg h, if_neg h2, if_neg]
  intro ha
  have := List.all_eq_true.1 ha _ (List.getElem_mem hi)
  rw [hf] at this; cases this
theorem Vm.all_okC {l : List (List UInt8)} (ha : ∀ i (hi : i < l.length), Vm.okC l[i] = true) : l.all Vm.okC = true :=
  List.all_eq_true.2 (fun x hx => by obtain ⟨i, hi, rfl⟩ := List.mem_iff_getElem.1 hx; exact ha i hi)
theorem Vm.ofV_clash {num : Int} {l : List (List UInt8)} (h : ¬ (num < 1 ∨ 2147483647 ≤ num)) (h2 : ¬ 256 < l.length) (ha : ∀ i (hi : i < l.length), Vm.okC l[i] = true) {i k : Nat} (hi : i < l.length) (hk : k < l.length) (e : Vm.nm l[i] = Vm.nm l[k]) (hne : l[i] ≠ l[k]) :
    Vm.ofV num l = (0, [], 8) := by
  unfold Vm.ofV; rw [if_neg h, if_neg h2, if_pos (Vm.all_okC ha), if_pos ⟨_, List.getElem_mem hi, _, List.getElem_mem hk, e, hne⟩]
/-- no two of the first i are different and have one name -/
def Vm.free (l : List (List UInt8)) (i : Nat) : Prop := ∀ a b (ha : a < l.length) (hb : b < l.length), a < i → b < a → Vm.nm l[a] = Vm.nm l[b] → l[a] = l[b]
theorem Vm.free_clash {l : List (List UInt8)} (h : Vm.free l l.length) : ¬ Vm.clash l := by
  rintro ⟨x, hx, y, hy, e, hne⟩
  obtain ⟨a, ha, rfl⟩ := List.mem_iff_getElem.1 hx
  obtain ⟨b, hb, rfl⟩ := List.mem_iff_getElem.1 hy
  rcases Nat.lt_trichotomy a b with h1 | h1 | h1
  · exact hne (h b a hb ha hb h1 e.symm).symm
  · subst h1; exact hne rfl
  · exact hne (h a b ha hb ha h1 e)
theorem Vm.ofV_ok {num : Int} {l : List (List UInt8)} (h : ¬ (num < 1 ∨ 2147483647 ≤ num)) (h2 : ¬ 256 < l.length) (ha : ∀ i (hi : i < l.length), Vm.okC l[i] = true) (hf : Vm.free l l.length) :
    Vm.ofV num l = (num, l.map Vm.nm, 0) := by
  unfold Vm.ofV; rw [if_neg h, if_neg h2, if_pos (Vm.all_okC ha), if_neg (Vm.free_clash hf)]

theorem Below.drewN' {B : Nat} {a w : World} (h : Below B a w) (q : Nat) : Below B a (w.drewN q) := h.trans ⟨rfl, rfl, rfl, Nat.le_refl _, fun _ _ => rfl⟩
/-- a version in a block -/
def VB (b : Nat) (num : Int) (v : Value) (w : World) : Prop := w.heap[b]? = some (.cells #[.int .i64 num, v] 25 (0, 0))
theorem VB.c0 {b : Nat} {num : Int} {v : Value} {w : World} (h : VB b num v w) : w.cell? ⟨b, 0, none⟩ = some (.int .i64 num) := by unfold VB at h; simp [World.cell?, h]
theorem VB.c1 {b : Nat} {num : Int} {v : Value} {w : World} (h : VB b num v w) : w.cell? ⟨b, 1, none⟩ = some v := by unfold VB at h; simp [World.cell?, h]
theorem VB.f0 {b : Nat} {num : Int} {v : Value} {w : World} (h : VB b num v w) : w.frozen? ⟨b, 0, none⟩ = false := by unfold VB at h; simp [World.frozen?, h]
theorem VB.f1 {b : Nat} {num : Int} {v : Value} {w : World} (h : VB b num v w) : w.frozen? ⟨b, 1, none⟩ = false := by unfold VB at h; simp [World.frozen?, h]
theorem VB.below {b B : Nat} {num : Int} {v : Value} {w w' : World} (h : VB b num v w) (hB : Below B w w') (hb : b < B) : VB b num v w' := (hB.block b hb).trans h
theorem VB.lt {b : Nat} {num : Int} {v : Value} {w : World} (h : VB b num v w) : b < w.heap.size := lt_of_block h

set_option maxRecDepth 100000 in
theorem rof_any' (num : Int) (A : Option Addr) (n c : Nat) (l : List (List UInt8)) (w : World) (hl : CellsIn w A n c (l.map Cm.str)) (hz : ∀ x ∈ l, x.length ≤ 9223372036854775807) (hn : n ≤ 17592186044416) :
    Calls Try.prog 15 #[.int .i64 num, .slice A n c] w (Vm.RetV w.heap.size w (Vm.ofV num l)) := by
  have hln : l.length = n := by have := hl.1; simpa using this
  by_cases h1 : num < 1
  · have HF := Lib.hid (Vm.ofV_range l (.inl h1))
    go_enter Try.func15, Try.ntmps15
    go_wp2
    exact bodyPost_ret (v := .tuple #[.agg #[.int .i64 0, .slice none 0 0], .int .i64 1]) (by simp [results, Try.results15, go_sem]) rfl ⟨.slice none 0 0, by rw [HF.out], by rw [HF.out]; exact NamesOwn.nil _ _, (Below.refl _ w).alloc (Nat.le_refl _) _⟩
  by_cases h2 : 2147483647 ≤ num
  · have HF := Lib.hid (Vm.ofV_range l (.inr h2))
    go_enter Try.func15, Try.ntmps15
    go_wp2
    exact bodyPost_ret (v := .tuple #[.agg #[.int .i64 0, .slice none 0 0], .int .i64 1]) (by simp [results, Try.results15, go_sem]) rfl ⟨.slice none 0 0, by rw [HF.out], by rw [HF.out]; exact NamesOwn.nil _ _, (Below.refl _ w).alloc (Nat.le_refl _) _⟩
  have h12 : ¬ (num < 1 ∨ 2147483647 ≤ num) := by omega
  by_cases h3 : 256 < n
  · have HF := Lib.hid (Vm.ofV_limit h12 (by rw [hln]; exact h3))
    have d3 : decide ((256 : Int) < (n : Int)) = true := by simp; omega
    go_enter Try.func15, Try.ntmps15
    go_wp2
    exact bodyPost_ret (v := .tuple #[.agg #[.int .i64 0, .slice none 0 0], .int .i64 4]) (by simp [results, Try.results15, go_sem]) rfl ⟨.slice none 0 0, by rw [HF.out], by rw [HF.out]; exact NamesOwn.nil _ _, (Below.refl _ w).alloc (Nat.le_refl _) _⟩
  have h32 : ¬ 256 < l.length := by omega
  have d3 : decide ((256 : Int) < (n : Int)) = false := by simp; omega
  obtain ⟨i0, hi, hz0, hz1, hz2⟩ := info_parts info_name
  obtain ⟨B, hB⟩ : ∃ B, w.heap.size = B := ⟨_, rfl⟩
  obtain ⟨w1, hw1⟩ : ∃ V, w.alloc (.cells #[Value.int .i64 0, .slice none 0 0] 25) = V := ⟨_, rfl⟩
  have hR1 : VB B 0 (.slice none 0 0) w1 := by rw [← hw1, ← hB]; exact heap_alloc_new _ _
  have hB1 : Below B w w1 := by rw [← hw1]; exact (Below.refl _ _).alloc (by omega) _
  have hs1 : w1.heap.size = B + 1 := by rw [← hw1]; simp [hB]
  have HL := Lib.hid hl
  have HLN := Lib.hid hln
  have HW1 := Lib.hid hw1
  have HBE := Lib.hid hB
  clear hl hln hw1
  rw [hB]
  clear hB
  go_enter Try.func15, Try.ntmps15
  go_wp2_with fail
  rw [HW1.out]
  simp only [HBE.out]
  have hv2 : VB (B + 1) num (.slice none 0 0) (w1.alloc (.cells #[.int .i64 num, .slice none 0 0] 25)) := by rw [← hs1]; exact heap_alloc_new _ _
  have hb2 : Below (B + 1) w1 (w1.alloc (.cells #[.int .i64 num, .slice none 0 0] 25)) := (Below.refl _ _).alloc (by omega) _
  generalize w1.alloc (.cells #[.int .i64 num, .slice none 0 0] 25) = w2 at hv2 hb2 ⊢
  have HR1 := Lib.hid hR1
  have HB1 := Lib.hid hB1
  have HV2 := Lib.hid hv2
  have HB2 := Lib.hid hb2
  clear hR1 hB1 hv2 hb2 d3
  go_loopw [26] (fun i wr => ∃ (k : Nat) (v : Value), k ≤ n ∧ i = .int .i64 k ∧ VB (B + 1) num v wr ∧ NamesOwn wr (B + 2) v ((l.take k).map Vm.nm) ∧ Below (B + 1) w1 wr ∧ ∀ j (hj : j < l.length), j < k → Vm.okC l[j] = true) (fun i wr => n - (intOf i).toNat)
  case atStart => exact ⟨0, _, by omega, rfl, HV2.out, NamesOwn.nil _ _, HB2.out, fun j _ h => absurd h (by omega)⟩
  case round =>
    obtain ⟨k, v, hk, rfl, hvr, hrow, hBr, hok⟩ := hrel
    have hsz := hBr.size
    have hbs := hvr.lt
    by_cases hlt : k < n
    · have d8 : decide ((k : Int) < (n : Int)) = true := by simp; omega
      obtain ⟨g, o, rfl, hg, hzl, y0⟩ := HL.out.at hlt
      rw [List.getElem_map] at y0
      have hkl : k < l.length := by rw [HLN.out]; exact hlt
      obtain ⟨x, hx⟩ : ∃ x, Cm.b l[k] = x := ⟨_, rfl⟩
      unfold Cm.str at y0
      rw [hx] at y0
      rw [HBE.out] at hg
      have z0 := (hBr.cell (p := ⟨g, o + k, none⟩) (show g < B + 1 by omega)).trans ((HB1.out.cell (p := ⟨g, o + k, none⟩) hg).trans y0)
      have hxl : x.data.toList = l[k] := by rw [← hx, Cm.b_list]
      have hxs : x.size = l[k].length := by rw [← hxl]; simp
      have hxm := hz _ (List.getElem_mem hkl)
      have hr := HR1.out.below hBr (show B < B + 1 by omega)
      obtain ⟨t0, t1, t2, t3⟩ := And.intro hr.c0 (And.intro hr.c1 (And.intro hr.f0 hr.f1))
      have HBr := Lib.hid hBr
      have HOK := Lib.hid hok
      have HXL := Lib.hid hxl
      have HXS := Lib.hid hxs
      rw [← hxs] at hxm
      clear hBr hok y0 hx hzl hxl hxs hr
      by_cases e1 : x.size < 1
      · have HF := Lib.hid (Vm.ofV_form h12 h32 hkl (by unfold Vm.okC; rw [← HXS.out]; simp; omega))
        have c1 : decide ((x.size : Int) < 1) = true := by simp; omega
        go_wp2_with fail
        exact bodyPost_ret (v := .tuple #[.agg #[.int .i64 0, .slice none 0 0], .int .i64 2]) (by simp [results, Try.results15, go_sem, t0, t1]) rfl ⟨.slice none 0 0, by rw [HF.out], by rw [HF.out]; exact NamesOwn.nil _ _, ((HB1.out.trans (HBr.out.mono (by omega))).setCell (Nat.le_refl _) _).setCell (Nat.le_refl _) _⟩
      by_cases e2 : 256 < x.size
      · have HF := Lib.hid (Vm.ofV_form h12 h32 hkl (by unfold Vm.okC; rw [← HXS.out]; simp; omega))
        have c1 : decide ((x.size : Int) < 1) = false := by simp; omega
        have c2 : decide ((256 : Int) < (x.size : Int)) = true := by simp; omega
        go_wp2_with fail
        exact bodyPost_ret (v := .tuple #[.agg #[.int .i64 0, .slice none 0 0], .int .i64 2]) (by simp [results, Try.results15, go_sem, t0, t1]) rfl ⟨.slice none 0 0, by rw [HF.out], by rw [HF.out]; exact NamesOwn.nil _ _, ((HB1.out.trans (HBr.out.mono (by omega))).setCell (Nat.le_refl _) _).setCell (Nat.le_refl _) _⟩
      have c1 : decide ((x.size : Int) < 1) = false := by simp; omega
      have c2 : decide ((256 : Int) < (x.size : Int)) = false := by simp; omega
      have HG := Lib.hid (show Vm.okC l[k] = true by unfold Vm.okC; rw [← HXS.out]; simp; omega)
      have hN := rname_any x
      rw [HXL.out] at hN
      obtain ⟨y, hy⟩ : ∃ y, Vm.nm l[k] = y := ⟨_, rfl⟩
      rw [hy] at hN
      have HN := Lib.hid hN
      have HY := Lib.hid (show (l.take (k + 1)).map Vm.nm = (l.take k).map Vm.nm ++ [y] by rw [List.take_succ_eq_append_getElem hkl, List.map_append, ← hy]; rfl)
      have hkk : ((l.take k).map Vm.nm).length = k := by rw [List.length_map, List.length_take]; omega
      obtain ⟨P, hP⟩ : ∃ P, (l.take k).map Vm.nm = P := ⟨_, rfl⟩
      rw [hP] at hrow hkk HY
      have HROW := Lib.hid hrow
      have HVR := Lib.hid hvr
      have HKK := Lib.hid hkk
      have q1 := hvr.c1
      clear hN hy hP hrow hvr hkk t0 t1 t2 t3
      obtain ⟨ya, yb⟩ := y
      have hHN : ∀ V : World, Calls Try.prog 40 #[.string x] V fun e w' => e = .returned (.agg #[.int .i64 ya, .int .i64 yb]) ∧ Below V.heap.size V w' := fun V => HN.out V (by unfold maxLen; omega)
      have HM := Lib.hid hHN
      have hkk2 := HKK.out
      have hrl : ∀ b', v.ownBlock = some b' → B + 2 ≤ b' := fun b' hb' => (World.ownsRow.lt HROW.out _ hb').1
      have HRL := Lib.hid hrl
      clear HN hHN hrl
      go_wp2_with fail
      go_region_law (first | (go_simp; go_at_call 40; refine (HM.out _).mono ?_; rintro e W2 ⟨rfl, hB2⟩; have hV2 := VB.below (show VB (B + 1) num v wr.drew from HVR.out) hB2 hbs; have c1' := hV2.c1; have hO2 := Lib.hid (NamesOwn.below (show NamesOwn wr.drew (B + 2) v P from HROW.out) hB2); have hbs2 : B + 1 < W2.heap.size := Nat.lt_of_lt_of_le hbs hB2.size; have HV2 := Lib.hid hV2; have HB2' := Lib.hid hB2; clear hV2 hB2) | (refine step_append_lies _ rfl (.tmp 40) (.tmp 43) 23 rfl (B + 2) 59 i0 (.agg #[.int .i64 0, .int .i64 0]) 2 16 Try.underlying23 hi hz0 hz1 hz2 rfl (by decide) v P.length (Vm.cells P) (by simp [Act.eval]) (hO2.out.alloc _) ⟨W2.heap.size, 0, none⟩ 1 1 [.int .i64 ya, .int .i64 yb] (by simp [Act.eval]) rfl (cell_two_new _ _ _ _) (by simp [Value.oneCell']) (by omega) (by unfold maxLen; omega) (by omega) (by simp <;> omega) _ rfl ?_; intro g4 cap4 w4 hown4 hgrow4 hat4 hlt4; have hv4 : VB (B + 1) num v w4 := (hgrow4.block (B + 1) (by simp <;> omega) (fun e => by have := HRL.out _ e.symm; omega)).trans ((Below.heap_alloc _ _ _ hbs2).trans HV2.out); have d1 := hv4.c1; have d2 := hv4.f1; have HV4 := Lib.hid hv4; have HO4 := Lib.hid hown4; have HG4 := Lib.hid hgrow4; clear hv4 hown4 hgrow4 hat4 hlt4))
      all_goals have HB4 := Lib.hid (show Below (B + 1) w1 w4 from ((HBr.out.drew.trans (HB2'.out.mono (by show B + 1 ≤ wr.heap.size; omega))).alloc (by omega) _).grown HG4.out (by simp <;> omega) (fun b hb => by have := HRL.out b hb; omega))
      all_goals have HV5 := Lib.hid (show VB (B + 1) num (.slice (some ⟨g4, 0, none⟩) (k + 1) cap4) (w4.setCell ⟨B + 1, 1, none⟩ (.slice (some ⟨g4, 0, none⟩) (k + 1) cap4)) from two_set1 HV4.out)
      all_goals have HR5 := Lib.hid (show NamesOwn (w4.setCell ⟨B + 1, 1, none⟩ (.slice (some ⟨g4, 0, none⟩) (k + 1) cap4)) (B + 2) (.slice (some ⟨g4, 0, none⟩) (k + 1) cap4) ((l.take (k + 1)).map Vm.nm) from by
        rw [HY.out]
        refine NamesOwn.setCell ?_ (by show B + 1 < B + 2; omega) _
        unfold NamesOwn
        rw [Vm.cells_snoc, List.length_append, List.length_singleton]
        have h := HO4.out
        rw [hkk2] at h ⊢
        exact h)
      all_goals go_wp2
      all_goals go_roundw
      case rel => exact ⟨k + 1, _, by omega, by go_num, HV5.out, HR5.out, HB4.out.setCell (by show B + 1 ≤ B + 1; omega) _, fun j hj h => by
        by_cases e : j = k
        · subst e; exact HG.out
        · exact HOK.out j hj (by omega)⟩
      case measure => simp [intOf]; omega
      case rel => exact ⟨k + 1, _, by omega, by go_num, HV5.out, HR5.out, HB4.out.setCell (by show B + 1 ≤ B + 1; omega) _, fun j hj h => by
        by_cases e : j = k
        · subst e; exact HG.out
        · exact HOK.out j hj (by omega)⟩
      case measure => simp [intOf]; omega
      case rel => exact ⟨k + 1, _, by omega, by go_num, HV5.out, HR5.out, HB4.out.setCell (by show B + 1 ≤ B + 1; omega) _, fun j hj h => by
        by_cases e : j = k
        · subst e; exact HG.out
        · exact HOK.out j hj (by omega)⟩
      case measure => simp [intOf]; omega
    · obtain rfl : k = n := by omega
      have htk : (l.take k).map Vm.nm = l.map Vm.nm := by rw [List.take_of_length_le (by rw [HLN.out]; exact Nat.le_refl _)]
      rw [htk] at hrow
      obtain ⟨A', c', rfl, hni⟩ := own_names hrow
      have hlm : (l.map Vm.nm).length = k := by rw [List.length_map, HLN.out]
      rw [hlm] at hni hvr hrow
      have hcl := HL.out.below (HB1.out.trans (hBr.mono (by omega)) |>.mono (by rw [HBE.out]; exact Nat.le_refl _))
      have hkc : k ≤ c := hcl.2.1
      have q1 := hvr.c1
      have HNI := Lib.hid hni
      have HCL := Lib.hid hcl
      have HROW := Lib.hid hrow
      have HVR := Lib.hid hvr
      have HBr := Lib.hid hBr
      have HOK := Lib.hid (fun i (hi : i < l.length) => hok i hi (by rw [HLN.out] at hi; exact hi))
      have d8 : decide ((k : Int) < (k : Int)) = false := by simp
      clear htk hlm hni hcl hrow hvr hBr hok hlt
      go_wp2_with fail
      go_loopw [49] (fun i wq => ∃ a q : Nat, a ≤ k ∧ i = .int .i64 a ∧ wq = wr.drewN q ∧ Vm.free l a) (fun i _ => k - (intOf i).toNat)
      case atStart => exact ⟨0, 0, by omega, rfl, rfl, fun a b _ _ h => absurd h (by omega)⟩
      case round =>
        obtain ⟨a, q, ha, rfl, rfl, hfree⟩ := hrel
        have HFR := Lib.hid hfree
        clear hfree
        by_cases hlt : a < k
        · have d9 : decide ((a : Int) < (k : Int)) = true := by simp; omega
          have i1 : (0 : Int) ≤ (a : Int) := by omega
          have i2 : (a : Int) ≤ (c : Int) := by omega
          obtain ⟨g', o', rfl, hg', hza, na0, na1⟩ := HNI.out.at hlt
          obtain ⟨g, o, rfl, hg, hzb, ya⟩ := HCL.out.at hlt
          rw [List.getElem_map] at na0 na1 ya
          have hal : a < l.length := by rw [HLN.out]; exact hlt
          obtain ⟨X, hX⟩ : ∃ X, Cm.b l[a] = X := ⟨_, rfl⟩
          obtain ⟨Y, hY⟩ : ∃ Y, Vm.nm l[a] = Y := ⟨_, rfl⟩
          obtain ⟨ya0, ya1⟩ := Y
          unfold Cm.str at ya
          rw [hX] at ya
          rw [hY] at na0 na1
          simp only at na0 na1
          have HXE := Lib.hid hX
          have HYE := Lib.hid hY
          clear hza hzb hX hY
          go_wp2_with fail
          go_loopw [56] (fun i wq => ∃ b p : Nat, b ≤ a ∧ i = .int .i64 b ∧ wq = wr.drewN p ∧ ∀ j (hj : j < l.length), j < b → Vm.nm l[a] = Vm.nm l[j] → l[a] = l[j]) (fun i _ => a - (intOf i).toNat)
          case atStart => exact ⟨0, q, by omega, rfl, rfl, fun j _ h => absurd h (by omega)⟩
          case round =>
            obtain ⟨b, p, hb, rfl, rfl, hin⟩ := hrel
            have HIN := Lib.hid hin
            clear hin
            by_cases hlb : b < a
            · have d10 : decide ((b : Int) < (a : Int)) = true := by simp; omega
              have hbk : b < k := by omega
              obtain ⟨g2, o2, hA2, hg2, hzc, nb0, nb1⟩ := HNI.out.at hbk
              injection hA2 with hA2
              injection hA2 with hA2 hA3
              subst hA2 hA3
              obtain ⟨g3, o3, hA2, hg3, hzd, yb⟩ := HCL.out.at hbk
              injection hA2 with hA2
              injection hA2 with hA2 hA3
              subst hA2 hA3
              rw [List.getElem_map] at nb0 nb1 yb
              have hbl : b < l.length := by rw [HLN.out]; exact hbk
              obtain ⟨Z, hZ⟩ : ∃ X, Cm.b l[b] = X := ⟨_, rfl⟩
              obtain ⟨Y, hY⟩ : ∃ Y, Vm.nm l[b] = Y := ⟨_, rfl⟩
              obtain ⟨yb0, yb1⟩ := Y
              unfold Cm.str at yb
              rw [hZ] at yb
              rw [hY] at nb0 nb1
              simp only at nb0 nb1
              have j1 : (a : Int) < (k : Int) := by omega
              have j2 : (b : Int) < (k : Int) := by omega
              have j3 : (0 : Int) ≤ (b : Int) := by omega
              by_cases hn : (ya0, ya1) = (yb0, yb1)
              · obtain ⟨rfl, rfl⟩ : ya0 = yb0 ∧ ya1 = yb1 := by injection hn with h1 h2; exact ⟨h1, h2⟩
                by_cases hc : l[a] = l[b]
                · have hXZ : X = Z := by rw [← HXE.out, ← hZ, hc]
                  subst hXZ
                  have HNX := Lib.hid (show ∀ j (hj : j < l.length), j < b + 1 → Vm.nm l[a] = Vm.nm l[j] → l[a] = l[j] from fun j hj h e => by
                    by_cases ej : j = b
                    · subst ej; exact hc
                    · exact HIN.out j hj (by omega) e)
                  clear hc hZ hY hzc hzd hn
                  go_wp2_with fail
                  go_quiet (fail)
                  go_wp2_with fail
                  go_roundw
                  case rel => exact ⟨b + 1, _, by omega, by go_num, rfl, HNX.out⟩
                  case measure => simp [intOf]; omega
                · have hXZ : (X.toList == Z.toList) = false := str_ne (fun e => hc (Cm.b_inj (by rw [HXE.out, hZ, e])))
                  have hXZ2 : (X.toList != Z.toList) = true := by simp [bne, hXZ]
                  have HF := Lib.hid (Vm.ofV_clash h12 h32 HOK.out hal hbl (by rw [HYE.out, hY]) hc)
                  have hr := HR1.out.below HBr.out (show B < B + 1 by omega)
                  obtain ⟨t0, t1, t2, t3⟩ := And.intro hr.c0 (And.intro hr.c1 (And.intro hr.f0 hr.f1))
                  clear hc hZ hY hzc hzd hn hr
                  go_wp2_with fail
                  go_quiet (fail)
                  go_wp2_with fail
                  exact bodyPost_ret (v := .tuple #[.agg #[.int .i64 0, .slice none 0 0], .int .i64 8]) (by simp [results, Try.results15, go_sem, t0, t1]) rfl ⟨.slice none 0 0, by rw [HF.out], by rw [HF.out]; exact NamesOwn.nil _ _, ((Below.drewN' (HB1.out.trans (HBr.out.mono (by omega))) _).setCell (p := ⟨B, 0, none⟩) (Nat.le_refl _) _).setCell (p := ⟨B, 1, none⟩) (Nat.le_refl _) _⟩
              · have hq := name_ne hn
                have HNX := Lib.hid (show ∀ j (hj : j < l.length), j < b + 1 → Vm.nm l[a] = Vm.nm l[j] → l[a] = l[j] from fun j hj h e => by
                  by_cases ej : j = b
                  · subst ej; rw [HYE.out, hY] at e; exact absurd e hn
                  · exact HIN.out j hj (by omega) e)
                clear hZ hY hzc hzd hn
                go_wp2_with fail
                go_quiet (fail)
                go_wp2_with fail
                go_roundw
                case rel => exact ⟨b + 1, _, by omega, by go_num, rfl, HNX.out⟩
                case measure => simp [intOf]; omega
            · obtain rfl : b = a := by omega
              have d10 : decide ((b : Int) < (b : Int)) = false := by simp
              have HFX := Lib.hid (show Vm.free l (b + 1) from fun x y hx hy h1 h2 e => by
                by_cases ex : x = b
                · subst ex; exact HIN.out y hy h2 e
                · exact HFR.out x y hx hy (by omega) h2 e)
              go_wp2_with fail
              go_roundw
              case rel => exact ⟨b + 1, _, by omega, by go_num, rfl, HFX.out⟩
              case measure => simp [intOf]; omega
        · obtain rfl : a = k := by omega
          have d9 : decide ((a : Int) < (a : Int)) = false := by simp
          have HF := Lib.hid (Vm.ofV_ok h12 h32 HOK.out (by rw [HLN.out]; exact HFR.out))
          have hr := HR1.out.below HBr.out (show B < B + 1 by omega)
          obtain ⟨t0, t1, t2, t3⟩ := And.intro hr.c0 (And.intro hr.c1 (And.intro hr.f0 hr.f1))
          have q0 := HVR.out.c0
          clear hr
          go_wp2_with fail
          exact bodyPost_ret (v := .tuple #[.agg #[.int .i64 num, .slice A' a c'], .int .i64 0]) (by simp [results, Try.results15, go_sem, t0, t1]) rfl ⟨.slice A' a c', by rw [HF.out], by
            rw [HF.out]
            exact NamesOwn.mono (NamesOwn.setCell (a := ⟨B, 1, none⟩) (NamesOwn.setCell (a := ⟨B, 0, none⟩) (NamesOwn.below HROW.out (Below.drewN' (Below.refl _ _) _)) (show B < B + 2 by omega) _) (show B < B + 2 by omega) _) (by omega), ((Below.drewN' (HB1.out.trans (HBr.out.mono (by omega))) _).setCell (p := ⟨B, 0, none⟩) (Nat.le_refl _) _).setCell (p := ⟨B, 1, none⟩) (Nat.le_refl _) _⟩

end Go.Proofs.Ytebkgndcgcdogaa
