/-
  ChunkJoins: its walk.
-/
import Derived.Test.YtnijengmdagmeaaChS
import Derived.Test.YtnijengmdagmeaaChJ
import Derived.Deep.RegionLaw
import Derived.Deep.AppendLies
import Derived.Laws.AppendOwnNone
namespace Go.Proofs.Ytnijengmdagmeaa
open Go.RowKit
set_option maxHeartbeats 2000000
set_option linter.unusedVariables false

/-- a row of bytes, whole -/
def RowB (W : World) (g : Nat) (t : ByteArray) : Prop := W.heap[g]? = some (.cells (t.data.toList.map Wm.u8).toArray 5 (0, 0))
theorem RowB.lt {W : World} {g : Nat} {t : ByteArray} (h : RowB W g t) : g < W.heap.size := lt_of_block h
theorem RowB.cell {W : World} {g : Nat} {t : ByteArray} (h : RowB W g t) : BytesAt W g t := fun i hi => by
  unfold RowB at h
  have hl : i < t.data.toList.length := by simpa using hi
  simp only [World.cell?, h]
  rw [List.getElem?_toArray, List.getElem?_map, List.getElem?_eq_getElem hl]
  rfl
theorem RowB.set {W : World} {g : Nat} {t : ByteArray} (h : RowB W g t) (k : Nat) (hk : k < t.size) (x : Nat) (hx : x ≤ 255) :
    ∃ t' : ByteArray, t'.size = t.size ∧ RowB (W.setCell ⟨g, k, none⟩ (.int .u8 (x : Nat))) g t' := by
  refine ⟨⟨(t.data.toList.set k (UInt8.ofNat x)).toArray⟩, by show Array.size _ = _; simp, ?_⟩
  unfold RowB at h ⊢
  have hb : Wm.u8 (UInt8.ofNat x) = .int .u8 (x : Nat) := by
    have : (UInt8.ofNat x).toNat = x := by simp [UInt8.toNat_ofNat']; omega
    unfold Wm.u8; rw [this]
  simp [World.setCell, Array.getElem?_modify, h, List.map_set, hb]

/-- 'append([]T(nil), x...)' as one step of a region that draws -/
theorem step_append_from_nil {P : Program} {ops : Array Oper} {o : Oper} {a : Act} {w : World} {K : Act → World → Prop} {Q : Exit → Act → World → Prop} {E : Prop}
    (hg : o.guard = none) (x : Operand) (t : TypeId) (hop : o.op = Op.call { callee := Callee.builtin Builtin.append, args := #[.const (.slice none 0 0), x], argTypes := #[t, t] })
    (base : Nat) (e : TypeId) (i : TypeInfo) (z : Value) (size bytes : Nat) (h1 : P.underlying t = some (.slice e)) (h2 : P.info? e = some i) (h3 : i.zero = some z) (h4 : i.size = size) (h5 : i.bytes = bytes) (h6 : z.cells.size = size) (h7 : 0 < size)
    (ao : Option Addr) (m c : Nat) (news : List Value) (hx : a.eval x = .slice ao m c) (hao : ao = none → m = 0 ∧ c = 0) (hn : news.length = m * size) (hc : ∀ ad, ao = some ad → ∀ j u, news[j]? = some u → w.cell? (ad.add j) = some u) (h1c : ∀ u ∈ news, u.oneCell' = true)
    (b1 : m ≤ maxLen) (b2 : m * bytes ≤ 140737488355328) (hB : base ≤ w.heap.size)
    (hK : ∀ v' w', w'.ownsRow base e size v' m news → w.grownBy w' none → K (a.put o.dst v') w') :
    if Region.wanted o (yielded ops a.tmps) = true then Oper.wp P o a w K Q else E := by
  have hw : Region.wanted o (yielded ops a.tmps) = true := by simp [Region.wanted, hg]
  rw [if_pos hw]
  have hs : a.eval (.const (.slice none 0 0)) = .slice none 0 0 := rfl
  cases ao with
  | none =>
    obtain ⟨rfl, rfl⟩ := hao rfl
    obtain rfl : news = [] := List.eq_nil_of_length_eq_zero (by simpa using hn)
    have hrun := run_append_owned_none (P := P) (w := w) base t o.type e i size h1 h2 (.slice none 0 0) 0 [] (World.ownsRow_nil w base e size)
    unfold Oper.wp
    simp [execOp, hop, resolve, invoke, builtin, hs, hx, hrun, Result.andThen]
    exact hK _ _ (World.ownsRow_nil w base e size) ⟨rfl, rfl, rfl, Nat.le_refl _, fun _ _ _ => rfl⟩
  | some ad =>
    obtain ⟨v', w', hrun, r1, r2, _⟩ := run_append_own (P := P) w base t o.type e i z size bytes h1 h2 h3 h4 h5 h6 h7 (.slice none 0 0) 0 [] (World.ownsRow_nil w base e size) ad m c news hn (hc ad rfl) h1c (by rw [Nat.zero_add]; exact b1) (by rw [Nat.zero_add]; exact b2) hB
    rw [Nat.zero_add, List.nil_append] at r1
    unfold Oper.wp
    simp [execOp, hop, resolve, invoke, builtin, hs, hx, hrun, Result.andThen]
    exact hK v' w' r1 r2
theorem CellsIn.news {w : World} {A : Option Addr} {n c : Nat} {vs : List Value} (h : CellsIn w A n c vs) : ∀ ad, A = some ad → ∀ j u, vs[j]? = some u → w.cell? (ad.add j) = some u := by
  intro ad hA j u hj
  have hl := (List.getElem?_eq_some_iff.1 hj)
  obtain ⟨hl, hu⟩ := hl
  obtain ⟨h1, h2, h3⟩ := h
  obtain ⟨g, o, hA', _, hc⟩ := h3 (by omega)
  rw [hA] at hA'
  injection hA' with hA'
  subst hA'
  have e1 : (⟨g, o, none⟩ : Addr).add j = ⟨g, o + j, none⟩ := by unfold Addr.add; split <;> simp_all
  rw [e1, hc j hl, hu]

theorem one_news {w : World} {g : Nat} {v : Value} (h : w.cell? ⟨g, 0, none⟩ = some v) : ∀ j u, [v][j]? = some u → w.cell? ((⟨g, 0, none⟩ : Addr).add j) = some u := by
  intro j u hj
  match j, hj with
  | 0, hj =>
    have e1 : (⟨g, 0, none⟩ : Addr).add 0 = ⟨g, 0, none⟩ := by unfold Addr.add; split <;> simp_all
    rw [e1, h]; exact hj
  | j + 1, hj => simp at hj

set_option maxRecDepth 100000 in
theorem chunkJoins_walk (A : Option Addr) (n c : Nat) (l : List (List UInt8)) (a b : Int) (w : World) (h : CellsIn w A n c (l.map Cm.str)) (hA : A = none → c = 0) (hn : n ≤ 1048576) (ht : l.flatten.length ≤ 1048576) (ha0 : 0 ≤ a) (ha1 : a ≤ 255) (hb0 : 0 ≤ b) (hb1 : b ≤ 255) :
    Calls Try.prog 4 #[.slice A n c, .int .u8 a, .int .u8 b] w fun e w' => e = .returned (.bool true) ∧ Below w.heap.size w w' := by
  obtain ⟨a, rfl⟩ := Int.eq_ofNat_of_zero_le ha0
  obtain ⟨b, rfl⟩ := Int.eq_ofNat_of_zero_le hb0
  have hl : l.length = n := by rw [← h.1, List.length_map]
  have HL := Lib.hid hl
  have HC := Lib.hid h
  have HT := Lib.hid ht
  clear hl h ht
  obtain ⟨q, hq⟩ : ∃ q, a % 3 = q := ⟨_, rfl⟩
  have f1 : (a : Int).tmod 3 = (q : Int) := by rw [Int.tmod_eq_emod_of_nonneg (by omega), ← hq]; simp
  have f2 : (a : Int) % 3 = (q : Int) := by omega
  have q3 : q < 3 := by omega
  clear hq
  go_enter Try.func4, Try.ntmps4
  go_wp2_with fail
  refine (csane_any _).mono ?_
  rintro e w1 ⟨rfl, hB1⟩
  have HC1 := Lib.hid (HC.out.below hB1)
  have HB1 := Lib.hid hB1
  clear hB1 HC
  go_wp2_with fail
  go_loop [7, 22] (fun v i => ∃ k : Nat, k ≤ n ∧ i = .int .i64 k ∧ v = .int .i64 ((l.take k).flatten.length : Nat)) (fun v i => n - (intOf i).toNat)
  case atStart => exact ⟨0, by omega, rfl, rfl⟩
  case round =>
    obtain ⟨k, hk, rfl, rfl⟩ := hrel
    by_cases hlt : k < n
    · obtain ⟨g, o, rfl, hgl, hz, hcell⟩ := HC1.out.at hlt
      rw [List.getElem_map] at hcell
      have hkl : k < l.length := by rw [HL.out]; exact hlt
      have hft := Cm.flat_take l k hkl
      have hfm := Nat.le_trans (Cm.flat_take_le l (k + 1)) HT.out
      obtain ⟨X, hX⟩ : ∃ X, Cm.b l[k] = X := ⟨_, rfl⟩
      have hXs : l[k].length = X.size := by rw [← hX]; rfl
      unfold Cm.str at hcell
      rw [hX] at hcell
      rw [hXs] at hft
      obtain ⟨u, hu⟩ : ∃ u, (l.take k).flatten.length = u := ⟨_, rfl⟩
      rw [hu] at hft ⊢
      have i0 : (0 : Int) ≤ (k : Int) := by omega
      have i1 : (k : Int) < (n : Int) := by omega
      have HF := Lib.hid hft
      rw [hft] at hfm
      clear hft hX hXs hkl hz hgl hu
      go_wp2
      go_round
      case rel => exact ⟨k + 1, by omega, by go_num, by rw [HF.out]; go_num⟩
      case measure => simp [intOf]; omega
    · obtain rfl : k = n := by omega
      have htk : l.take k = l := List.take_of_length_le (by rw [HL.out]; exact Nat.le_refl _)
      rw [htk]
      obtain ⟨t, htt⟩ : ∃ t, l.flatten.length = t := ⟨_, rfl⟩
      rw [htt]
      by_cases hbig : 4000 < t
      · clear htk htt
        go_wp2
        go_ret
        exact ⟨rfl, HB1.out⟩
      · obtain ⟨S, hS⟩ : ∃ S : Nat, S = 16384 - t + q - 1 := ⟨_, rfl⟩
        have s1 : (16384 : Int) - (t : Int) + (q : Int) - 1 = (S : Int) := by omega
        have s2 : 1 ≤ S := by omega
        have s3 : S ≤ 20000 := by omega
        clear hS
        obtain ⟨i0, hi, hz0, hz1, hz2⟩ := info_parts info_u8
        obtain ⟨M, hM, hmk⟩ : ∃ M : ByteArray, M.size = S ∧ ∀ W : World, (Instr.makeSlice 46 (.int .i64 (S : Int)) (.int .i64 (S : Int))).run Try.prog W = .ok (.slice (some ⟨W.heap.size, 0, none⟩) S S) (W.alloc (.cells (M.data.toList.map Wm.u8).toArray 5)) := by
          refine ⟨⟨(List.replicate S (0 : UInt8)).toArray⟩, by show Array.size _ = _; simp, fun W => ?_⟩
          have h := run_make (P := Try.prog) W 46 5 i0 (.int .u8 0) Try.underlying46 hi hz0 .i64 .i64 (S : Int) (S : Int) (by omega) (by omega) (by rw [hz2]; omega) (by omega)
          have e1 : madeCells (Value.int .u8 0).cells (((S : Nat) : Int).toNat * i0.size) = (List.map Wm.u8 (List.replicate S (0 : UInt8))).toArray := by
            apply Array.ext
            · rw [size_madeCells, hz1]; simp
            · intro i h1 h2
              simp only [madeCells, Value.cells, Array.getElem_map, List.getElem_toArray, List.getElem_map, List.getElem_replicate]
              simp [Nat.mod_one, Wm.u8]
          rw [e1] at h
          simpa using h
        have hb4 : ¬ (4000 : Int) < (t : Int) := by omega
        clear htk htt hbig
        go_wp2_with fail
        obtain ⟨g, hg⟩ : ∃ g, w1.heap.size = g := ⟨_, rfl⟩
        have hrow : RowB (w1.alloc (.cells (M.data.toList.map Wm.u8).toArray 5)) g M := by rw [← hg]; exact heap_alloc_new _ _
        have hBg : Below g w1 (w1.alloc (.cells (M.data.toList.map Wm.u8).toArray 5)) := (Below.refl _ _).alloc (by omega) _
        have hCg : ∀ V, Below g w1 V → CellsIn V A k c (l.map Cm.str) := fun V hv => HC1.out.below (by rw [hg]; exact hv)
        have hwg : w.heap.size ≤ g := by rw [← hg]; exact HB1.out.size
        rw [hg]
        generalize w1.alloc (.cells (M.data.toList.map Wm.u8).toArray 5) = w2 at hrow hBg ⊢
        have HRow := Lib.hid hrow
        have HBg := Lib.hid hBg
        have HCg := Lib.hid hCg
        clear hrow hBg hCg hmk hg HC1
        go_loopw [43] (fun i wr => ∃ j : Nat, j ≤ S ∧ i = .int .i64 j ∧ Below g w1 wr ∧ ∃ t : ByteArray, t.size = S ∧ RowB wr g t) (fun i wr => S - (intOf i).toNat)
        case atStart => exact ⟨0, by omega, rfl, HBg.out, M, hM, HRow.out⟩
        case round =>
          obtain ⟨j, hj, rfl, hBr, X, hXs, hXr⟩ := hrel
          by_cases hlj : j < S
          · have cj := hXr.cell j (by rw [hXs]; exact hlj)
            have fj : wr.frozen? ⟨g, j, none⟩ = false := by
              have h := hXr; unfold RowB at h; simp [World.frozen?, h]
            obtain ⟨X', hX's, hX'r⟩ := hXr.set j (by rw [hXs]; exact hlj) b (by omega)
            obtain ⟨y, hy⟩ : ∃ y : Nat, (X[j]'(by rw [hXs]; exact hlj)).toNat = y := ⟨_, rfl⟩
            rw [hy] at cj
            have j0 : (0 : Int) ≤ (j : Int) := by omega
            have j1 : (j : Int) < (S : Int) := by omega
            have HX' := Lib.hid hX'r
            have HXS := Lib.hid (hX's.trans hXs)
            have HBr := Lib.hid hBr
            clear hXr hX'r hX's hBr hy HRow HBg hM
            go_wp2
            go_roundw
            case rel => exact ⟨j + 1, by omega, by go_num, HBr.out.setCell (Nat.le_refl _) _, X', HXS.out, HX'.out⟩
            case measure => simp [intOf]; omega
          · obtain rfl : j = S := by omega
            have HBr := Lib.hid hBr
            have HXr := Lib.hid hXr
            clear hBr hXr HRow HBg hM
            go_wp2_with fail
            obtain ⟨i1, hj0, hj1, hj2, hj3⟩ := info_parts info_str
            have hgr : g ≤ wr.heap.size := by have := HXr.out.lt; omega
            have h1c : ∀ u ∈ l.map Cm.str, u.oneCell' = true := fun u hu => by
              obtain ⟨x, _, rfl⟩ := List.mem_map.1 hu
              rfl
            have hll : (l.map Cm.str).length = k * 1 := by rw [List.length_map, HL.out]; omega
            have hA2 : A = none → k = 0 ∧ c = 0 := fun e => by
              have h := (HCg.out _ HBr.out).2.1
              have := hA e
              exact ⟨by omega, this⟩
            have nA := Lib.hid ((HCg.out _ HBr.out.drew).news)
            have nB := Lib.hid ((HCg.out _ (HBr.out.drew.alloc hgr (.cells #[.string X] 9))).news)
            have cv : ∀ V : World, RowB V g X → (convert 46 9 (.slice (some ⟨g, 0, none⟩) j j)).run Try.prog V = .ok (.string X) V := fun V hv => hv.cell.conv 46 9 5 j j hXs.symm Try.underlying46 Try.underlying5 Try.underlying9
            have cv0 : (convert 46 9 (.slice (some ⟨g, 0, none⟩) j j)).run Try.prog wr.drew = .ok (.string X) wr.drew := cv _ HXr.out
            have CV := Lib.hid cv
            have HAA := Lib.hid hA2
            have HLL := Lib.hid hll
            have H1C := Lib.hid h1c
            clear cv hA hA2 hll h1c
            go_region_law (first | (refine step_append_from_nil rfl (.tmp 52) 34 rfl g 9 i1 (.string ByteArray.empty) 1 16 Try.underlying34 hj0 hj1 hj2 hj3 rfl (by decide) A k c (l.map Cm.str) (by simp [Act.eval, Act.put]) HAA.out HLL.out nA.out H1C.out (by unfold maxLen; omega) (by omega) hgr ?_; intro v5 w5 hown5 hgrow5; have pathA := True.intro; have cv5 := CV.out w5 ((hgrow5.block g HXr.out.lt (by simp)).trans HXr.out); have HO5 := Lib.hid hown5; have HG5 := Lib.hid hgrow5; clear hown5 hgrow5) | (refine step_append_from_nil rfl (.tmp 52) 34 rfl g 9 i1 (.string ByteArray.empty) 1 16 Try.underlying34 hj0 hj1 hj2 hj3 rfl (by decide) A k c (l.map Cm.str) (by simp [Act.eval, Act.put]) HAA.out HLL.out nB.out H1C.out (by unfold maxLen; omega) (by omega) (by simp; omega) ?_; intro v5 w5 hown5 hgrow5; have pathB := True.intro; have nX : w5.cell? ⟨wr.heap.size, 0, none⟩ = some (.string X) := (hgrow5.cell (a := ⟨wr.heap.size, 0, none⟩) (cell_new_at wr.drew #[.string X] 9 wr.heap.size rfl 0) (by simp)); have HO5 := Lib.hid hown5; have HG5 := Lib.hid hgrow5; clear hown5 hgrow5) | (have := pathA; refine step_append_lies _ rfl (.tmp 53) (.tmp 56) 34 rfl g 9 i1 (.string ByteArray.empty) 1 16 Try.underlying34 hj0 hj1 hj2 hj3 rfl (by decide) v5 k (l.map Cm.str) (by simp [Act.eval, Act.put]) (HO5.out.alloc _) ⟨w5.heap.size, 0, none⟩ 1 1 [.string X] (by simp [Act.eval, Act.put]) rfl (cell_one_new _ _ _) (by simp [Value.oneCell']) (by omega) (by unfold maxLen; omega) (by omega) (by have := HG5.out.size; simp at this ⊢; omega) _ rfl ?_; intro g6 cap6 w6 hown6 hgrow6 _ hlt6; have HO6 := Lib.hid hown6; have HG6 := Lib.hid hgrow6; clear hown6 hgrow6) | (have := pathB; refine step_append_lies _ rfl (.tmp 53) (.tmp 56) 34 rfl g 9 i1 (.string ByteArray.empty) 1 16 Try.underlying34 hj0 hj1 hj2 hj3 rfl (by decide) v5 k (l.map Cm.str) (by simp [Act.eval, Act.put]) HO5.out ⟨wr.heap.size, 0, none⟩ 1 1 [.string X] (by simp [Act.eval, Act.put]) rfl (one_news nX) (by simp [Value.oneCell']) (by omega) (by unfold maxLen; omega) (by omega) (by have := HG5.out.size; simp at this ⊢; omega) _ rfl ?_; intro g6 cap6 w6 hown6 hgrow6 _ hlt6; have HO6 := Lib.hid hown6; have HG6 := Lib.hid hgrow6; clear hown6 hgrow6) | fail)
            all_goals
              have hB6 : Below g w1 w6 := by
                first
                | exact grown_below HG6.out (HBr.out.drew.grown HG5.out hgr (by simp)) (by have := HG5.out.size; simp at this; omega) (fun y hy => (HO5.out.lt y hy).1)
                | exact ((HBr.out.drew.alloc hgr _).grown HG5.out (by simp; omega) (by simp)).grown HG6.out (by have := HG5.out.size; simp at this; omega) (fun y hy => (HO5.out.lt y hy).1)
              have hc1 := HCg.out _ hB6
              have hc2 : CellsIn w6 (some ⟨g6, 0, none⟩) (k + 1) cap6 ((l ++ [X.data.toList]).map Cm.str) := by
                have h := CellsIn.own HO6.out
                rw [List.map_append, List.map_singleton, Cm.str, Cm.b_of]
                exact h
              have hsum : (l ++ [X.data.toList]).flatten.length ≤ 2000000 := by
                have := HT.out
                rw [List.flatten_append, List.length_append, List.flatten_singleton, size_list]
                omega
              have hB7 : Below w.heap.size w w6 := HB1.out.trans (hB6.mono hwg)
              have hw6 : w.heap.size ≤ w6.heap.size := hB7.size
              obtain ⟨H, hH⟩ : ∃ H, w6.heap.size = H := ⟨_, rfl⟩
              have hcw : ∀ V, Below (H + 1) (w6.alloc (.cells #[.slice A k c, .slice (some ⟨g6, 0, none⟩) (k + 1) cap6] 34)) V → CellsIn V A k c (l.map Cm.str) ∧ CellsIn V (some ⟨g6, 0, none⟩) (k + 1) cap6 ((l ++ [X.data.toList]).map Cm.str) := fun V hv => by
                have h : Below w6.heap.size w6 V := ((Below.refl _ _).alloc (Nat.le_refl _) _).trans (hv.mono (by omega))
                exact ⟨hc1.below h, hc2.below h⟩
              have hv0 : ∀ j, (w6.alloc (.cells #[.slice A k c, .slice (some ⟨g6, 0, none⟩) (k + 1) cap6] 34)).cell? ⟨H, j, none⟩ = (#[Value.slice A k c, .slice (some ⟨g6, 0, none⟩) (k + 1) cap6] : Array Value)[j]? := fun j => cell_new_at _ _ _ _ hH.symm j
              have hB8 := hB7.alloc hw6 (.cells #[.slice A k c, .slice (some ⟨g6, 0, none⟩) (k + 1) cap6] 34)
              rw [hH] at hw6
              try rw [hH]
              generalize w6.alloc (.cells #[.slice A k c, .slice (some ⟨g6, 0, none⟩) (k + 1) cap6] 34) = W0 at hcw hv0 hB8 ⊢
              have HCW := Lib.hid hcw
              have HV0 := Lib.hid hv0
              have HB8 := Lib.hid hB8
              have HSum := Lib.hid hsum
              clear hB6 hc1 hc2 hsum hB7 hH hcw hv0 hB8 HO6 HG6 HO5 HG5 HBr HXr nA nB CV H1C HLL HAA cv0
              go_simp
              go_wp2_with fail
              go_loopw [60] (fun i wr => ∃ p : Nat, p ≤ 2 ∧ i = .int .i64 p ∧ Below (H + 1) W0 wr) (fun i wr => 2 - (intOf i).toNat)
              case atStart => exact ⟨0, by omega, rfl, Below.refl _ _⟩
              case round =>
                obtain ⟨p, hp, rfl, hBp⟩ := hrel
                by_cases hlp : p < 2
                · have d9 : decide ((p : Int) < 2) = true := by simp; omega
                  obtain ⟨Ap, np, cp, lp, hcell, hci, hnp, hsp, hxp⟩ : ∃ (Ap : Option Addr) (np cp : Nat) (lp : List (List UInt8)), wr.cell? ⟨H, p, none⟩ = some (.slice Ap np cp) ∧ CellsIn wr Ap np cp (lp.map Cm.str) ∧ np ≤ 2000000 ∧ lp.flatten.length ≤ 2000000 ∧ (∀ x ∈ lp, x.length ≤ 2000000) := by
                    have hx : ∀ (lq : List (List UInt8)), lq.flatten.length ≤ 2000000 → ∀ x ∈ lq, x.length ≤ 2000000 := fun lq h x hx => by
                      have := (List.sublist_flatten_of_mem hx).length_le
                      omega
                    obtain ⟨h1, h2⟩ := HCW.out wr hBp
                    have e := (hBp.cell (p := ⟨H, p, none⟩) (by show H < H + 1; omega)).trans (HV0.out p)
                    match p, hlp, e with
                    | 0, _, e => exact ⟨A, k, c, l, e, h1, by omega, by have := HT.out; omega, hx l (by have := HT.out; omega)⟩
                    | 1, _, e => exact ⟨some ⟨g6, 0, none⟩, k + 1, cap6, _, e, h2, by omega, HSum.out, hx _ HSum.out⟩
                  obtain ⟨S1, er, hjr⟩ : ∃ S1 er, Cm.joinR lp = (S1, er) := ⟨_, _, rfl⟩
                  have J1 := Lib.hid (by have h := join_any Ap np cp lp wr hci (by omega) (fun x hx => by have := hxp x hx; omega); rw [hjr] at h; exact h : Calls Try.prog 27 #[.slice Ap np cp] wr fun e w' => e = .returned (.tuple #[.string (Cm.b S1), .int .i64 er]) ∧ Below wr.heap.size wr w')
                  have R1 := Lib.hid (fun V hv => (by have h := rjoin_any Ap np cp lp V (hci.below hv) (by omega) (by omega); rw [hjr] at h; exact h : Calls Try.prog 28 #[.slice Ap np cp] V fun e w' => e = .returned (.tuple #[.string (Cm.b S1), .int .i64 er]) ∧ V = w'))
                  have HBp := Lib.hid hBp
                  have hH1 : H + 1 ≤ wr.heap.size := World.block_lt_of_cell? wr ⟨H, p, none⟩ hcell
                  generalize Cm.b S1 = T1 at J1 R1
                  clear hBp hci hsp hxp hjr hnp
                  go_wp2_with fail
                  refine J1.out.mono ?_
                  rintro e v1 ⟨rfl, hb⟩
                  have R2 := Lib.hid (R1.out v1 hb)
                  have HBv := Lib.hid (HBp.out.trans (hb.mono hH1))
                  clear hb R1 J1 hcell
                  go_wp2_with fail
                  refine R2.out.mono ?_
                  rintro e v2 ⟨rfl, rfl⟩
                  go_wp2_with fail
                  go_roundw
                  case rel => exact ⟨p + 1, by omega, by go_num, HBv.out⟩
                  case measure => simp [intOf]; omega
                · obtain rfl : p = 2 := by omega
                  have HBp := Lib.hid (HB8.out.trans (hBp.mono (show w.heap.size ≤ H + 1 by omega)))
                  clear hBp
                  go_wp2_with fail
                  go_ret
                  exact ⟨rfl, HBp.out⟩

end Go.Proofs.Ytnijengmdagmeaa
