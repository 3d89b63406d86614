/-
  The sanity check of the statements on layer 8; small, all, has.
-/
import Derived.Test.YtebkgndcgcdogaaManC
import Derived.Test.YtebkgndcgcdogaaManD
import Derived.Test.YtebkgndcgcdogaaManE
import Derived.Test.YtebkgndcgcdogaaMkE
import Derived.Test.YtebkgndcgcdogaaVg
namespace Go.Proofs.Ytebkgndcgcdogaa
open Go.RowKit
set_option maxHeartbeats 2000000

/-- three texts, as the sanity check has them -/
def Vm.three : List (List UInt8) := [[97, 98], [99], [97, 98]]
def Vm.two : List (List UInt8) := [[99], [97, 98]]
theorem Vm.sane1 : Vm.ofV 1 [] = (1, [], 0) := Vm.ofV_ok (by decide) (by decide) (fun i h => absurd h (by simp)) (fun a b ha _ _ _ _ => absurd ha (by simp))
theorem Vm.sane2 : Vm.enc 1 [] = ([2, 0], 0) := by decide +kernel
theorem Vm.sane3 : Vm.ofV 2 Vm.three = (2, Vm.three.map Vm.nm, 0) := by
  refine Vm.ofV_ok (by decide) (by decide) (fun i hi => ?_) (fun a b ha hb h1 h2 e => ?_)
  · match i, hi with
    | 0, _ => rfl
    | 1, _ => rfl
    | 2, _ => rfl
    | i + 3, hi => simp [Vm.three] at hi; omega
  · match a, b, ha, hb with
    | 1, 0, _, _ => have := congrArg Prod.snd e; simp [Vm.nm, Vm.three] at this
    | 2, 0, _, _ => rfl
    | 2, 1, _, _ => have := congrArg Prod.snd e; simp [Vm.nm, Vm.three] at this
    | 0, b, _, _ => omega
    | 1, b + 1, _, _ => omega
    | 2, b + 2, _, _ => omega
    | a + 3, _, ha, _ => simp [Vm.three] at ha; omega
theorem Vm.sane4 : Vm.res 2 (Vm.three.map Vm.nm) Vm.two = ([97, 98, 99, 97, 98], 0) := by decide +kernel
theorem Vm.sane5 : Vm.siz 2 (Vm.three.map Vm.nm) = (5, 0) := by decide +kernel
theorem strs_new (w : World) (e : TypeId) (l : List (List UInt8)) (g : Nat) (hg : g = w.heap.size) (cs : Array Value) (hcs : cs = (l.map Cm.str).toArray) : CellsIn (w.alloc (.cells cs e)) (some ⟨g, 0, none⟩) l.length l.length (l.map Cm.str) := by
  subst hg hcs
  refine ⟨by simp, Nat.le_refl _, fun _ => ⟨_, 0, rfl, by simp, fun i hi => ?_⟩⟩
  rw [Nat.zero_add, cell_new_at _ _ _ _ rfl]
  simp only [List.getElem?_toArray, List.getElem?_eq_getElem hi]

set_option maxRecDepth 100000 in
theorem vsane_any (w : World) : Calls Try.prog 9 #[] w fun e w' => e = .returned (.bool true) ∧ Below w.heap.size w w' := by
  have O1 := Lib.hid (fun V => (by
    have h := mof_any 1 none 0 0 [] V ⟨rfl, Nat.le_refl _, fun h => absurd h (by omega)⟩ (fun x hx => absurd hx (by simp)) (by omega)
    rw [Vm.sane1] at h
    exact h : Calls Try.prog 17 #[.int .i64 1, .slice none 0 0] V (Vm.RetV V.heap.size V (1, [], 0))))
  have O2 := Lib.hid (fun V A h => (by
    have h := mof_any 2 A 3 3 Vm.three V h (fun x hx => by simp [Vm.three] at hx; rcases hx with rfl | rfl | rfl <;> simp) (by omega)
    rw [Vm.sane3] at h
    exact h : Calls Try.prog 17 #[.int .i64 2, .slice A 3 3] V (Vm.RetV V.heap.size V (2, Vm.three.map Vm.nm, 0))))
  have E1 := Lib.hid (fun V A c h => (by
    have h := menc_any 1 A 0 c [] V h (by omega)
    rw [Vm.sane2] at h
    exact h : Calls Try.prog 32 #[.agg #[.int .i64 1, .slice A 0 c]] V fun e w' => e = .returned (.tuple #[.string ⟨#[2, 0]⟩, .int .i64 0]) ∧ Below V.heap.size V w'))
  have R1 := Lib.hid (fun V A c A' h h' => (by
    have h := mres_any 2 A A' 3 2 c 2 (Vm.three.map Vm.nm) Vm.two V h h' (fun x hx => by simp [Vm.two] at hx; rcases hx with rfl | rfl <;> simp) (by omega) (by omega)
    rw [Vm.sane4] at h
    exact h : Calls Try.prog 19 #[.agg #[.int .i64 2, .slice A 3 c], .slice A' 2 2] V fun e w' => e = .returned (.tuple #[.string ⟨#[97, 98, 99, 97, 98]⟩, .int .i64 0]) ∧ Below V.heap.size V w'))
  have S1 := Lib.hid (fun V A c h => (by
    have h := msiz_any 2 A 3 c (Vm.three.map Vm.nm) V h (by omega)
    rw [Vm.sane5] at h
    exact h : Calls Try.prog 21 #[.agg #[.int .i64 2, .slice A 3 c]] V fun e w' => e = .returned (.tuple #[.int .i64 5, .int .i64 0]) ∧ Below V.heap.size V w'))
  go_enter Try.func9, Try.ntmps9
  go_wp2_with fail
  refine (O1.out _).mono ?_
  rintro e w1 ⟨v, rfl, ho1, hb1⟩
  obtain ⟨A1, c1, rfl, hn1⟩ := own_names ho1
  have HN1 := Lib.hid hn1
  have HB1 := Lib.hid hb1
  clear ho1 hn1 hb1
  go_wp2_with fail
  refine (E1.out _ A1 c1 (HN1.out.below ((Below.refl _ _).alloc (Nat.le_refl _) _))).mono ?_
  rintro e w2 ⟨rfl, hb2⟩
  have HB2 := Lib.hid (HB1.out.trans ((((Below.refl _ _).alloc (Nat.le_refl _) _).trans (hb2.mono (by simp))).mono HB1.out.size))
  clear hb2
  go_wp2_with fail
  have hs3 := strs_new w2 9 Vm.three w2.heap.size rfl _ rfl
  refine (O2.out _ _ hs3).mono ?_
  rintro e w3 ⟨v, rfl, ho3, hb3⟩
  obtain ⟨A3, c3, rfl, hn3⟩ := own_names ho3
  have HN3 := Lib.hid hn3
  have HB3 := Lib.hid ((HB2.out.alloc HB2.out.size _).trans (hb3.mono (by have := HB2.out.size; simp; omega)))
  clear ho3 hn3 hb3 hs3
  obtain ⟨b3, hb3⟩ : ∃ b3, w3.heap.size = b3 := ⟨_, rfl⟩
  obtain ⟨wa, hwa⟩ : ∃ V, w3.alloc (.cells #[.int .i64 2, .slice A3 3 c3] 25) = V := ⟨_, rfl⟩
  have hva : VB b3 2 (.slice A3 3 c3) wa := by rw [← hwa, ← hb3]; exact heap_alloc_new _ _
  have hba : Below b3 w3 wa := by rw [← hwa, ← hb3]; exact (Below.refl _ _).alloc (Nat.le_refl _) _
  have hsa : wa.heap.size = b3 + 1 := by rw [← hwa]; simp [hb3]
  have HWA := Lib.hid hwa
  have HVA := Lib.hid hva
  have HBA := Lib.hid hba
  have HB3E := Lib.hid hb3
  clear hwa hva hba hb3
  go_wp2_with fail
  rw [show Value.slice A3 Vm.three.length c3 = Value.slice A3 3 c3 from rfl, HWA.out]
  simp only [HB3E.out]
  have hs4 := strs_new wa 9 Vm.two (b3 + 1) hsa.symm _ rfl
  refine (R1.out _ A3 c3 _ ((HN3.out.below (by rw [HB3E.out]; exact HBA.out)).below ((Below.refl _ _).alloc (Nat.le_refl _) _)) hs4).mono ?_
  rintro e w4 ⟨rfl, hb4⟩
  have hv4 := VB.below ((Below.heap_alloc wa (.cells #[Value.string ⟨#[99]⟩, Value.string ⟨#[97, 98]⟩] 9) b3 (by omega)).trans HVA.out : VB b3 2 (.slice A3 3 c3) (wa.alloc (.cells #[Value.string ⟨#[99]⟩, Value.string ⟨#[97, 98]⟩] 9))) hb4 (by simp; omega)
  have q0 := hv4.c0
  have q1 := hv4.c1
  have HN4 := Lib.hid ((((HN3.out.below (by rw [HB3E.out]; exact HBA.out)).below ((Below.refl _ _).alloc (Nat.le_refl _) (.cells #[Value.string ⟨#[99]⟩, Value.string ⟨#[97, 98]⟩] 9))).below hb4))
  have h3 := HB3.out.size
  rw [HB3E.out] at h3
  have HB4 := Lib.hid ((HB3.out.trans ((HBA.out.alloc (by omega) (.cells #[Value.string ⟨#[99]⟩, Value.string ⟨#[97, 98]⟩] 9)).mono h3)).trans (hb4.mono (by simp; omega)))
  clear hb4 hv4 hs4
  go_wp2_with fail
  refine (S1.out _ A3 c3 HN4.out).mono ?_
  rintro e w5 ⟨rfl, hb5⟩
  have HB5 := Lib.hid (HB4.out.trans (hb5.mono HB4.out.size))
  clear hb5
  go_wp2_with fail
  go_ret
  exact ⟨rfl, HB5.out⟩

/-- what small adds up -/
def Vm.weigh (l : List (List UInt8)) : Int := ((l.length + l.flatten.length : Nat) : Int)
theorem Vm.weigh_step (l : List (List UInt8)) (k : Nat) (h : k < l.length) : Vm.weigh (l.take (k + 1)) = Vm.weigh (l.take k) + (1 + (l[k].length : Int)) := by
  unfold Vm.weigh
  rw [Cm.flat_take _ _ h, List.length_take, List.length_take]; omega
theorem wrap_add (a b : Int) : IntKind.i64.wrap (IntKind.i64.wrap a + b) = IntKind.i64.wrap (a + b) := by
  rw [IntKind.wrap_i64, IntKind.wrap_i64, IntKind.wrap_i64]; omega

theorem w64 (x : Int) : wrap64 x = IntKind.i64.wrap x := by unfold wrap64; rw [IntKind.wrap_i64]

/-- small: the sum may pass the greatest int -/
theorem small_any (A : Option Addr) (n c : Nat) (l : List (List UInt8)) (w : World) (hl : CellsIn w A n c (l.map Cm.str)) (hz : ∀ x ∈ l, x.length ≤ 140737488355328) (hn : n ≤ 17592186044416) :
    Calls Try.prog 11 #[.slice A n c] w fun e w' => e = .returned (.bool (decide (IntKind.i64.wrap (Vm.weigh l) < 2000))) ∧ Below w.heap.size w w' := by
  have hln : l.length = n := by have := hl.1; simpa using this
  have HS := Lib.hid (Vm.weigh_step l)
  have HL := Lib.hid hl
  have HLN := Lib.hid hln
  have HZ := Lib.hid hz
  clear hl hln hz
  go_enter Try.func11, Try.ntmps11
  go_wp2_with fail
  go_loopw [3, 8] (fun s i wr => ∃ k : Nat, k ≤ n ∧ i = .int .i64 k ∧ s = .int .i64 (IntKind.i64.wrap (Vm.weigh (l.take k))) ∧ ∃ q, wr = w.drewN q) (fun s i _ => n - (intOf i).toNat)
  case atStart => exact ⟨0, by omega, rfl, rfl, 0, rfl⟩
  case round =>
    obtain ⟨k, hk, rfl, rfl, q, rfl⟩ := hrel
    by_cases hlt : k < n
    · have d8 : decide ((k : Int) < (n : Int)) = true := by simp; omega
      obtain ⟨g, o, rfl, hg, hz', y0⟩ := HL.out.at hlt
      rw [List.getElem_map] at y0
      have hkl : k < l.length := by rw [HLN.out]; exact hlt
      obtain ⟨x, hx⟩ : ∃ x, Cm.b l[k] = x := ⟨_, rfl⟩
      have hxs : x.size = l[k].length := by rw [← hx]; show Array.size _ = _; simp
      have hxb := HZ.out _ (List.getElem_mem hkl)
      rw [← hxs] at hxb
      have HT := Lib.hid (show IntKind.i64.wrap (IntKind.i64.wrap (Vm.weigh (l.take k)) + (1 + (x.size : Int))) = IntKind.i64.wrap (Vm.weigh (l.take (k + 1))) by rw [wrap_add, HS.out k hkl, hxs])
      unfold Cm.str at y0
      rw [hx] at y0
      have e1 : IntKind.i64.wrap (1 + (x.size : Int)) = 1 + (x.size : Int) := by rw [IntKind.wrap_i64]; omega
      obtain ⟨S, hS⟩ : ∃ S, IntKind.i64.wrap (Vm.weigh (l.take k)) = S := ⟨_, rfl⟩
      rw [hS] at HT ⊢
      clear hx hxs hz' hg hS
      go_wp2_with fail
      go_roundw
      case rel => exact ⟨k + 1, by omega, by go_num, by rw [w64, HT.out], _, rfl⟩
      case measure => simp [intOf]; omega
    · obtain rfl : k = n := by omega
      have d8 : decide ((k : Int) < (k : Int)) = false := by simp
      have HE := Lib.hid (show l.take k = l from List.take_of_length_le (by rw [HLN.out]; exact Nat.le_refl _))
      rw [HE.out]
      obtain ⟨W, hW⟩ : ∃ W, IntKind.i64.wrap (Vm.weigh l) = W := ⟨_, rfl⟩
      have HW := Lib.hid hW
      rw [hW]
      clear hW
      go_wp2_with fail
      go_ret
      exact ⟨by rw [HW.out]; rfl, Below.drewN' (Below.refl _ _) _⟩

theorem mem_take_succ (l : List (List UInt8)) (j : Nat) (h : j < l.length) (x : List UInt8) : decide (x ∈ l.take (j + 1)) = (decide (x ∈ l.take j) || decide (x = l[j])) := by
  have h2 : x ∈ l.take (j + 1) ↔ x ∈ l.take j ∨ x = l[j] := by rw [List.take_succ_eq_append_getElem h, List.mem_append, List.mem_singleton]
  rw [← Bool.decide_or]
  exact decide_eq_decide.2 h2

/-- all -/
theorem all_any (A A' : Option Addr) (n c n' c' : Nat) (l m : List (List UInt8)) (w : World) (hl : CellsIn w A n c (l.map Cm.str)) (hm : CellsIn w A' n' c' (m.map Cm.str)) (hn : n ≤ 17592186044416) (hn' : n' ≤ 17592186044416) :
    Calls Try.prog 34 #[.slice A n c, .slice A' n' c'] w fun e w' => e = .returned (.bool (decide (∀ x ∈ m, x ∈ l))) ∧ Below w.heap.size w w' := by
  have hln : l.length = n := by have := hl.1; simpa using this
  have hmn : m.length = n' := by have := hm.1; simpa using this
  have HL := Lib.hid hl
  have HM := Lib.hid hm
  have HLN := Lib.hid hln
  have HMN := Lib.hid hmn
  clear hl hm hln hmn
  go_enter Try.func34, Try.ntmps34
  go_wp2_with fail
  go_loopw [12] (fun i wr => ∃ k q : Nat, k ≤ n' ∧ i = .int .i64 k ∧ wr = w.drewN q ∧ ∀ j (hj : j < m.length), j < k → m[j] ∈ l) (fun i _ => n' - (intOf i).toNat)
  case atStart => exact ⟨0, 0, by omega, rfl, rfl, fun j _ h => absurd h (by omega)⟩
  case round =>
    obtain ⟨k, q, hk, rfl, rfl, hall⟩ := hrel
    have HALL := Lib.hid hall
    clear hall
    by_cases hlt : k < n'
    · have d8 : decide ((k : Int) < (n' : Int)) = true := by simp; omega
      obtain ⟨g, o, rfl, hg, hz', y0⟩ := HM.out.at hlt
      rw [List.getElem_map] at y0
      have hkl : k < m.length := by rw [HMN.out]; exact hlt
      obtain ⟨x, hx⟩ : ∃ x, Cm.b m[k] = x := ⟨_, rfl⟩
      unfold Cm.str at y0
      rw [hx] at y0
      have HX := Lib.hid hx
      clear hx hz' hg
      go_wp2_with fail
      go_loopw [7, 18] (fun f i wr => ∃ j p : Nat, j ≤ n ∧ i = .int .i64 j ∧ f = .bool (decide (m[k] ∈ l.take j)) ∧ wr = w.drewN p) (fun f i _ => n - (intOf i).toNat)
      case atStart => exact ⟨0, q, by omega, rfl, by simp, rfl⟩
      case round =>
        obtain ⟨j, p, hj, rfl, rfl, rfl⟩ := hrel
        by_cases hlj : j < n
        · have d9 : decide ((j : Int) < (n : Int)) = true := by simp; omega
          obtain ⟨g2, o2, rfl, hg2, hz2, y2⟩ := HL.out.at hlj
          rw [List.getElem_map] at y2
          have hjl : j < l.length := by rw [HLN.out]; exact hlj
          obtain ⟨y, hy⟩ : ∃ y, Cm.b l[j] = y := ⟨_, rfl⟩
          unfold Cm.str at y2
          rw [hy] at y2
          have hts : decide (m[k] ∈ l.take (j + 1)) = (decide (m[k] ∈ l.take j) || decide (m[k] = l[j])) := mem_take_succ l j hjl _
          cases hf : decide (m[k] ∈ l.take j) with
          | true =>
            have HT := Lib.hid (show decide (m[k] ∈ l.take (j + 1)) = true by rw [hts, hf]; rfl)
            clear hy hz2 hg2 hts hf
            go_wp2_with fail
            go_roundw
            case rel => exact ⟨j + 1, p, by omega, by go_num, by rw [HT.out], rfl⟩
            case measure => simp [intOf]; omega
          | false =>
            by_cases he : m[k] = l[j]
            · have hxy : x = y := by rw [← HX.out, ← hy, he]
              subst hxy
              have HT := Lib.hid (show decide (m[k] ∈ l.take (j + 1)) = true by rw [hts, hf, decide_eq_true he]; rfl)
              clear hy hz2 hg2 hts hf he
              go_wp2_with fail
              go_roundw
              case rel => exact ⟨j + 1, p, by omega, by go_num, by rw [HT.out], rfl⟩
              case measure => simp [intOf]; omega
            · have hxy : (x.toList == y.toList) = false := str_ne (fun e => he (Cm.b_inj (by rw [HX.out, hy, e])))
              have HT := Lib.hid (show decide (m[k] ∈ l.take (j + 1)) = false by rw [hts, hf, decide_eq_false he]; rfl)
              clear hy hz2 hg2 hts hf he
              go_wp2_with fail
              go_roundw
              case rel => exact ⟨j + 1, p, by omega, by go_num, by rw [HT.out], rfl⟩
              case measure => simp [intOf]; omega
        · obtain rfl : j = n := by omega
          have d9 : decide ((j : Int) < (j : Int)) = false := by simp
          rw [List.take_of_length_le (by rw [HLN.out]; exact Nat.le_refl _)]
          cases hf : decide (m[k] ∈ l) with
          | true =>
            have HN := Lib.hid (show ∀ i (hi : i < m.length), i < k + 1 → m[i] ∈ l from fun i hi h => by
              by_cases e : i = k
              · subst e; exact of_decide_eq_true hf
              · exact HALL.out i hi (by omega))
            clear hf
            go_wp2_with fail
            go_roundw
            case rel => exact ⟨k + 1, p, by omega, by go_num, rfl, HN.out⟩
            case measure => simp [intOf]; omega
          | false =>
            have HF := Lib.hid (show decide (∀ x ∈ m, x ∈ l) = false from decide_eq_false (fun h => of_decide_eq_false hf (h _ (List.getElem_mem hkl))))
            clear hf
            go_wp2_with fail
            go_ret
            exact ⟨by rw [HF.out]; rfl, Below.drewN' (Below.refl _ _) _⟩
    · obtain rfl : k = n' := by omega
      have d8 : decide ((k : Int) < (k : Int)) = false := by simp
      have HF := Lib.hid (show decide (∀ x ∈ m, x ∈ l) = true from decide_eq_true (fun x hx => by obtain ⟨i, hi, rfl⟩ := List.mem_iff_getElem.1 hx; exact HALL.out i hi (by rw [HMN.out] at hi; exact hi)))
      go_wp2_with fail
      go_ret
      exact ⟨by rw [HF.out]; rfl, Below.drewN' (Below.refl _ _) _⟩

theorem lhas_any (A : Option Addr) (n c : Nat) (l : List Vm.Nm) (x : Vm.Nm) (w : World) (hl : NamesIn w A n c l) (hn : n ≤ 17592186044416) :
    Calls Try.prog 35 #[.slice A n c, Vm.val x] w fun e w' => e = .returned (.bool (decide (x ∈ l))) ∧ Below w.heap.size w w' := by
  obtain ⟨x0, x1⟩ := x
  unfold Vm.val
  go_enter Try.func35, Try.ntmps35
  have HL := Lib.hid hl
  have HB0 := Lib.hid ((Below.refl w.heap.size w).alloc (Nat.le_refl _) (.cells #[Value.int .i64 x0, .int .i64 x1] 59))
  have q0 : (w.alloc (.cells #[Value.int .i64 x0, .int .i64 x1] 59)).heap[w.heap.size]? = some (.cells #[Value.int .i64 x0, .int .i64 x1] 59 (0, 0)) := heap_alloc_new _ _
  have Q0 := Lib.hid q0
  have hs0 : (w.alloc (.cells #[Value.int .i64 x0, .int .i64 x1] 59)).heap.size = w.heap.size + 1 := by simp
  clear hl q0
  obtain ⟨B, hB⟩ : ∃ B, w.heap.size = B := ⟨_, rfl⟩
  rw [hB] at HB0 Q0 hs0
  go_wp2_with fail
  generalize w.alloc (.cells #[Value.int .i64 x0, .int .i64 x1] 59) = w1 at HB0 Q0 hs0 ⊢
  go_loopw [9] (fun i wr => ∃ k : Nat, k ≤ n ∧ i = .int .i64 k ∧ Below (B + 1) w1 wr ∧ ∀ j (hj : j < l.length), j < k → l[j] ≠ (x0, x1)) (fun i wr => n - (intOf i).toNat)
  case atStart => exact ⟨0, by omega, rfl, Below.refl _ _, fun j _ h => absurd h (by omega)⟩
  case round =>
    obtain ⟨k, hk, rfl, hBr, hno⟩ := hrel
    have hBw := HB0.out.trans (hBr.mono (by omega))
    have hsz := hBr.size
    by_cases hlt : k < n
    · have d8 : decide ((k : Int) < (n : Int)) = true := by simp; omega
      obtain ⟨g, o, rfl, hg, hz, y0, y1⟩ := HL.out.at hlt
      have z0 := (hBw.cell (p := ⟨g, o + k * 2, none⟩) (by rw [← hB]; exact hg)).trans y0
      have z1 := (hBw.cell (p := ⟨g, o + k * 2 + 1, none⟩) (by rw [← hB]; exact hg)).trans y1
      obtain ⟨a, ha⟩ : ∃ a, l[k].1 = a := ⟨_, rfl⟩
      obtain ⟨b, hb⟩ : ∃ b, l[k].2 = b := ⟨_, rfl⟩
      rw [ha] at z0
      rw [hb] at z1
      have hx : wr.heap[B]? = some (.cells #[Value.int .i64 x0, .int .i64 x1] 59 (0, 0)) := (hBr.block B (by omega)).trans Q0.out
      have z2 : wr.cell? ⟨B, 0, none⟩ = some (.int .i64 x0) := by simp [World.cell?, hx]
      have z3 : wr.cell? ⟨B, 1, none⟩ = some (.int .i64 x1) := by simp [World.cell?, hx]
      have hE : l[k] = (a, b) := Prod.ext ha hb
      have HE := Lib.hid hE
      have HBr := Lib.hid hBr
      have HBw := Lib.hid hBw
      have HNO := Lib.hid hno
      have hBs : B < wr.heap.size := by omega
      clear hBr hno y0 y1 ha hb hE hx hBw hg
      by_cases he : (a, b) = (x0, x1)
      · obtain ⟨rfl, rfl⟩ : a = x0 ∧ b = x1 := by injection he with h1 h2; exact ⟨h1, h2⟩
        have HF := Lib.hid (show decide ((a, b) ∈ l) = true by rw [decide_eq_true]; rw [← HE.out]; exact List.getElem_mem hz)
        go_wp2_with fail
        go_ret
        exact ⟨by rw [HF.out]; rfl, (HBw.out.mono (by omega)).alloc (by omega) _⟩
      · have q := name_ne he
        have HNE := Lib.hid he
        clear he
        go_wp2_with fail
        go_roundw
        case rel => exact ⟨k + 1, by omega, by go_num, HBr.out.alloc (by omega) _, fun j hj h => by
          by_cases e : j = k
          · subst e; rw [HE.out]; exact HNE.out
          · exact HNO.out j hj (by omega)⟩
        case measure => simp [intOf]; omega
    · obtain rfl : k = n := by omega
      have HF := Lib.hid (show decide ((x0, x1) ∈ l) = false from decide_eq_false (Vm.not_in (fun j hj => hno j hj (by rw [HL.out.1] at hj; exact hj))))
      clear hno
      go_wp2_with fail
      go_ret
      exact ⟨by rw [HF.out]; rfl, hBw.mono (by omega)⟩

/-- 'append([]T(nil), x...)' in a list of operations -/
theorem wpList_append_from_nil {P : Program} {w : World} {ops : Array Oper} {rest : List Oper} {o : Oper} {a : Act} {Q : Exit → Act → World → Prop}
    (hg : o.guard = none) (x : Operand) (t : TypeId) (hop : o.op = Op.call { callee := Callee.builtin Builtin.append, args := #[.const (.slice none 0 0), x], argTypes := #[t, t] })
    (base : Nat) (e : TypeId) (i : TypeInfo) (z : Value) (size bytes : Nat) (h1 : P.underlying t = some (.slice e)) (h2 : P.info? e = some i) (h3 : i.zero = some z) (h4 : i.size = size) (h5 : i.bytes = bytes) (h6 : z.cells.size = size) (h7 : 0 < size)
    (ao : Option Addr) (m c : Nat) (news : List Value) (hx : a.eval x = .slice ao m c) (hao : ao = none → m = 0 ∧ c = 0) (hn : news.length = m * size) (hc : ∀ ad, ao = some ad → ∀ j u, news[j]? = some u → w.cell? (ad.add j) = some u) (h1c : ∀ u ∈ news, u.oneCell' = true)
    (b1 : m ≤ maxLen) (b2 : m * bytes ≤ 140737488355328) (hB : base ≤ w.heap.size)
    (hK : ∀ v' w', w'.ownsRow base e size v' m news → w.grownBy w' none → wpList P ops Q rest (a.put o.dst v') w') :
    wpList P ops Q (o :: rest) a w := by
  refine wpList_plain hg fun K hK2 => ?_
  have hs : a.eval (.const (.slice none 0 0)) = .slice none 0 0 := rfl
  cases ao with
  | none =>
    obtain ⟨rfl, rfl⟩ := hao rfl
    obtain rfl : news = [] := List.eq_nil_of_length_eq_zero (by simpa using hn)
    have hrun := run_append_owned_none (P := P) (w := w) base t o.type e i size h1 h2 (.slice none 0 0) 0 [] (World.ownsRow_nil w base e size)
    unfold Oper.wp
    simp [execOp, hop, resolve, invoke, builtin, hs, hx, hrun, Result.andThen]
    exact hK2 _ _ (hK _ _ (World.ownsRow_nil w base e size) ⟨rfl, rfl, rfl, Nat.le_refl _, fun _ _ _ => rfl⟩)
  | some ad =>
    obtain ⟨v', w', hrun, r1, r2, _⟩ := run_append_own (P := P) w base t o.type e i z size bytes h1 h2 h3 h4 h5 h6 h7 (.slice none 0 0) 0 [] (World.ownsRow_nil w base e size) ad m c news hn (hc ad rfl) h1c (by rw [Nat.zero_add]; exact b1) (by rw [Nat.zero_add]; exact b2) hB
    rw [Nat.zero_add, List.nil_append] at r1
    unfold Oper.wp
    simp [execOp, hop, resolve, invoke, builtin, hs, hx, hrun, Result.andThen]
    exact hK2 _ _ (hK v' w' r1 r2)
theorem CellsIn.fresh {w : World} {A : Option Addr} {n c : Nat} {vs : List Value} (h : CellsIn w A n c vs) : ∀ ad, A = some ad → ∀ j u, vs[j]? = some u → w.cell? (ad.add j) = some u := by
  intro ad hA j u hj
  have hl := (List.getElem?_eq_some_iff.1 hj)
  obtain ⟨hl, hu⟩ := hl
  obtain ⟨h1, h2, h3⟩ := h
  obtain ⟨g, o, hA', _, hc⟩ := h3 (by omega)
  rw [hA] at hA'
  injection hA' with hA'
  subst hA'
  have e1 : (⟨g, o, none⟩ : Addr).add j = ⟨g, o + j, none⟩ := by unfold Addr.add; split <;> simp_all
  rw [e1, hc j hl, hu]
theorem str_one (l : List (List UInt8)) : ∀ u ∈ l.map Cm.str, u.oneCell' = true := fun u hu => by
  obtain ⟨x, _, rfl⟩ := List.mem_map.1 hu; rfl

end Go.Proofs.Ytebkgndcgcdogaa
