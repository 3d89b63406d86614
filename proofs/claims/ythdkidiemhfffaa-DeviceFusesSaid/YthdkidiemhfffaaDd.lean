/-
  Contracts of the reference of device: ints, Same.
-/
import Derived.Test.YthdkidiemhfffaaDc
import Derived.Handy
namespace Go.Proofs.Ythdkidiemhfffaa
open Go.RowKit
set_option maxHeartbeats 2000000

theorem Dv.bq {B n : Nat} {w w' : World} (h : Below B w w') : Below B w (w'.drewN n) := h.trans ⟨rfl, rfl, rfl, Nat.le_refl _, fun _ _ => rfl⟩
theorem Dv.take_step {α : Type} {x y : List α} {k : Nat} (hx : k < x.length) (hy : k < y.length) (h : x.take k = y.take k) (he : x[k] = y[k]) : x.take (k + 1) = y.take (k + 1) := by
  rw [List.take_succ_eq_append_getElem hx, List.take_succ_eq_append_getElem hy, h, he]

set_option maxRecDepth 100000 in
/-- ints -/
theorem rintsD_any (A A' : Option Addr) (n n' c c' : Nat) (l l' : List Int) (w : World) (hs : SlIn w A n c (Dv.ints l)) (hs' : SlIn w A' n' c' (Dv.ints l')) :
    Calls Try.prog 41 #[.slice A n c, .slice A' n' c'] w fun e w' => e = .returned (.bool (decide (l = l'))) ∧ Below w.heap.size w w' := by
  have h := hs.1
  have h' := hs'.1
  have hn := hs.2.2
  have hn' := hs'.2.2
  have hl : l.length = n := by rw [← h.1, List.length_map]
  have hl' : l'.length = n' := by rw [← h'.1, List.length_map]
  obtain ⟨r, hr⟩ : ∃ r, decide (l = l') = r := ⟨_, rfl⟩
  rw [hr]
  have H := Lib.hid h
  have H' := Lib.hid h'
  have HL := Lib.hid hl
  have HL' := Lib.hid hl'
  have HR := Lib.hid hr
  clear h h' hs hs' hl hl' hr
  by_cases hnn : n = n'
  · subst hnn
    go_enter Try.func41, Try.ntmps41
    go_wp2
    go_loopw [13] (fun i wr => ∃ k : Nat, k ≤ n ∧ i = .int .i64 k ∧ l.take k = l'.take k ∧ ∃ q, wr = w.drewN q) (fun i wr => n - (intOf i).toNat)
    case atStart => exact ⟨0, by omega, rfl, rfl, 0, rfl⟩
    case round =>
      obtain ⟨k, hk, rfl, htk, q, rfl⟩ := hrel
      have HT := Lib.hid htk
      clear htk
      by_cases hlt : k < n
      · obtain ⟨b, o, rfl, hbl, hz, g1⟩ := H.out.at hlt
        obtain ⟨b', o', rfl, hbl', hz', g2⟩ := H'.out.at hlt
        rw [List.getElem_map] at g1 g2
        have hk1 : k < l.length := by rw [HL.out]; exact hlt
        have hk2 : k < l'.length := by rw [HL'.out]; exact hlt
        obtain ⟨x, hx⟩ : ∃ x, l[k] = x := ⟨_, rfl⟩
        obtain ⟨y, hy⟩ : ∃ y, l'[k] = y := ⟨_, rfl⟩
        rw [hx] at g1
        rw [hy] at g2
        have i0 : (0 : Int) ≤ (k : Int) := by omega
        have i1 : (k : Int) < (n : Int) := by omega
        by_cases he : l[k] = l'[k]
        · have hxy : x = y := by rw [← hx, ← hy, he]
          subst hxy
          have HS := Lib.hid (Dv.take_step hk1 hk2 HT.out he)
          clear hx hy he hz hz' hbl hbl' hk1 hk2
          go_wp2_with fail
          go_quiet (fail)
          go_wp2_with fail
          go_roundw
          case rel => exact ⟨k + 1, by omega, by go_num, HS.out, _, rfl⟩
          case measure => simp [intOf]; omega
        · have hxy : (x == y) = false := beq_eq_false_iff_ne.2 (fun e => he (by rw [hx, hy, e]))
          have hxy2 : (x != y) = true := by rw [bne, hxy]; rfl
          have hrf : false = r := by
            rw [← HR.out, eq_comm, decide_eq_false_iff_not]
            intro e; subst e; exact he rfl
          subst hrf
          clear hx hy he hz hz' hbl hbl' hk1 hk2
          go_wp2_with fail
          go_quiet (fail)
          go_wp2_with fail
          go_ret
          exact ⟨rfl, (Below.refl _ w).trans ⟨rfl, rfl, rfl, Nat.le_refl _, fun _ _ => rfl⟩⟩
      · obtain rfl : k = n := by omega
        have hrt : true = r := by
          rw [← HR.out, eq_comm, decide_eq_true_iff]
          have h := HT.out
          rwa [List.take_of_length_le (by rw [HL.out]; exact Nat.le_refl _), List.take_of_length_le (by rw [HL'.out]; exact Nat.le_refl _)] at h
        subst hrt
        go_wp2
        go_ret
        exact ⟨rfl, (Below.refl _ w).trans ⟨rfl, rfl, rfl, Nat.le_refl _, fun _ _ => rfl⟩⟩
  · have g1 : ((n : Int) == (n' : Int)) = false := beq_eq_false_iff_ne.2 (by omega)
    have g2 : ((n : Int) != (n' : Int)) = true := by rw [bne, g1]; rfl
    have hrf : false = r := by
      rw [← HR.out, eq_comm, decide_eq_false_iff_not]
      intro e; exact hnn (by rw [← HL.out, ← HL'.out, e])
    subst hrf
    go_enter Try.func41, Try.ntmps41
    go_wp2
    go_ret
    exact ⟨rfl, (Below.refl _ w).trans ⟨rfl, rfl, rfl, Nat.le_refl _, fun _ _ => rfl⟩⟩


set_option maxRecDepth 100000 in
theorem rsameD_any (v v' : Value) (d d' : Dv.D) (w : World) (hd : DevV w v d) (hd' : DevV w v' d') :
    Calls Try.prog 19 #[v, v'] w fun e w' => e = .returned (.bool (decide (d = d'))) ∧ Below w.heap.size w w' := by
  obtain ⟨A, n, c, A1, n1, c1, A2, n2, c2, rfl, hp⟩ := hd
  obtain ⟨A', n', c', A1', n1', c1', A2', n2', c2', rfl, hp'⟩ := hd'
  have l0 := hp.lens.1
  have l0' := hp'.lens.1
  have hn := hp.b.2.2
  have hn' := hp'.b.2.2
  obtain ⟨B, hB⟩ : ∃ B, w.heap.size = B := ⟨_, rfl⟩
  obtain ⟨r, hr⟩ : ∃ r, decide (d = d') = r := ⟨_, rfl⟩
  obtain ⟨t0, ht0⟩ : ∃ t0, decide (d.torn = d'.torn) = t0 := ⟨_, rfl⟩
  obtain ⟨f0, hf0⟩ : ∃ f0, decide (d.bad = d'.bad) = f0 := ⟨_, rfl⟩
  have HT := Lib.hid (fun W (h : DevP W A n c A1 n1 c1 A2 n2 c2 d) (h' : DevP W A' n' c' A1' n1' c1' A2' n2' c2' d') => ht0 ▸ rintsD_any A1 A1' n1 n1' c1 c1' d.torn d'.torn W h.t h'.t)
  have HF := Lib.hid (fun W (h : DevP W A n c A1 n1 c1 A2 n2 c2 d) (h' : DevP W A' n' c' A1' n1' c1' A2' n2' c2' d') => hf0 ▸ rintsD_any A2 A2' n2 n2' c2 c2' d.bad d'.bad W h.f h'.f)
  have HNO := Lib.hid (show d ≠ d' → r = false from fun h => by rw [← hr]; simpa using h)
  have HOK := Lib.hid (show t0 = true → f0 = true → d.size = d'.size → d.fuse = d'.fuse → d.down = d'.down → d.blocks = d'.blocks → r = true from by
    intro h1 h2 h3 h4 h5 h6
    have h1 := of_decide_eq_true (ht0.trans h1)
    have h2 := of_decide_eq_true (hf0.trans h2)
    rw [← hr]
    obtain ⟨a1, a2, a3, a4, a5, a6⟩ := d
    obtain ⟨b1, b2, b3, b4, b5, b6⟩ := d'
    simp only at h1 h2 h3 h4 h5 h6
    subst h1 h2 h3 h4 h5 h6
    simp)
  have HTF := Lib.hid (show t0 = false → d ≠ d' from fun h e => of_decide_eq_false (ht0.trans h) (by rw [e]))
  have HFF := Lib.hid (show f0 = false → d ≠ d' from fun h e => of_decide_eq_false (hf0.trans h) (by rw [e]))
  have HNS := Lib.hid (show d.size ≠ d'.size ∨ n ≠ n' ∨ d.fuse ≠ d'.fuse ∨ d.down ≠ d'.down → d ≠ d' from fun h e => by
    subst e; rcases h with h | h | h | h
    · exact h rfl
    · exact h (l0.symm.trans l0')
    · exact h rfl
    · exact h rfl)
  have HL0 := Lib.hid l0
  have HL0' := Lib.hid l0'
  obtain ⟨sz, hsz⟩ : ∃ x, d.size = x := ⟨_, rfl⟩
  obtain ⟨fu, hfu⟩ : ∃ x, d.fuse = x := ⟨_, rfl⟩
  obtain ⟨dn, hdn⟩ : ∃ x, d.down = x := ⟨_, rfl⟩
  obtain ⟨sz', hsz'⟩ : ∃ x, d'.size = x := ⟨_, rfl⟩
  obtain ⟨fu', hfu'⟩ : ∃ x, d'.fuse = x := ⟨_, rfl⟩
  obtain ⟨dn', hdn'⟩ : ∃ x, d'.down = x := ⟨_, rfl⟩
  rw [hr]
  unfold Dv.val
  rw [hsz, hfu, hdn, hsz', hfu', hdn']
  rw [hsz, hfu, hdn, hsz', hfu', hdn'] at HOK HNS
  obtain ⟨w1, hw1⟩ : ∃ V, (w.alloc (.cells #[.int .i64 sz, .slice A n c, .slice A1 n1 c1, .slice A2 n2 c2, .int .i64 fu, .bool dn] 25)).alloc (.cells #[.int .i64 sz', .slice A' n' c', .slice A1' n1' c1', .slice A2' n2' c2', .int .i64 fu', .bool dn'] 25) = V := ⟨_, rfl⟩
  have hb1 : Below B w w1 := by rw [← hw1, ← hB]; exact ((Below.refl _ _).alloc (Nat.le_refl _) _).alloc (by simp) _
  have hs1 : w1.heap.size = B + 2 := by rw [← hw1]; simp [hB]
  have HX1 := Lib.hid (show Box6 w1 B 25 (.int .i64 sz) (.slice A n c) (.slice A1 n1 c1) (.slice A2 n2 c2) (.int .i64 fu) (.bool dn) from by rw [← hw1]; exact (Box6.new _ _ _ _ _ _ _ _ _ hB).alloc _)
  have HX2 := Lib.hid (show Box6 w1 (B + 1) 25 (.int .i64 sz') (.slice A' n' c') (.slice A1' n1' c1') (.slice A2' n2' c2') (.int .i64 fu') (.bool dn') from by rw [← hw1]; exact Box6.new _ _ _ _ _ _ _ _ _ (by simp [hB]))
  have HDW := Lib.hid (show ∀ W, Below (B + 2) w1 W → DevP W A n c A1 n1 c1 A2 n2 c2 d ∧ DevP W A' n' c' A1' n1' c1' A2' n2' c2' d' from fun W h =>
    have hb := hb1.trans (h.mono (by omega)); ⟨hp.below (by rw [hB]; exact hb), hp'.below (by rw [hB]; exact hb)⟩)
  have HB1 := Lib.hid hb1
  have HW1 := Lib.hid hw1
  have HE := Lib.hid (show ∀ W V, Below (B + 2) w1 W → Below W.heap.size W V → Below (B + 2) w1 V from fun W V h h2 => h.trans (h2.mono (by have := h.size; omega)))
  clear hp hp' hr ht0 hf0 l0 l0' hb1 hw1 hsz hfu hdn hsz' hfu' hdn'
  rw [hB]
  by_cases k1 : sz = sz'
  · have d1 : (sz != sz') = false := by simpa using k1
    have d1' : (sz == sz') = true := by simpa using k1
    have HK1 := Lib.hid k1
    clear k1
    by_cases k2 : n = n'
    · subst k2
      go_enter Try.func19, Try.ntmps19
      go_wp2_with fail
      rw [HW1.out]
      clear hB
      refine (HT.out _ (HDW.out _ (Below.refl _ _)).1 (HDW.out _ (Below.refl _ _)).2).mono ?_
      rintro e w2 ⟨rfl, hq⟩
      have hb2 : Below (B + 2) w1 w2 := HE.out _ _ (Below.refl _ _) hq
      clear hq
      obtain ⟨p0, p1, p2, p3, p4, p5, _, _, _, _, _, _⟩ := (HX1.out.below hb2 (by omega)).s
      obtain ⟨q0, q1, q2, q3, q4, q5, _, _, _, _, _, _⟩ := (HX2.out.below hb2 (by omega)).s
      have HB2 := Lib.hid hb2
      clear hb2
      cases t0 with
      | false =>
        obtain rfl := HNO.out (HTF.out rfl)
        go_wp2_with fail
        go_ret
        exact ⟨rfl, HB1.out.trans (HB2.out.mono (by omega))⟩
      | true =>
      go_wp2_with fail
      refine (HF.out _ (HDW.out _ HB2.out).1 (HDW.out _ HB2.out).2).mono ?_
      rintro e w3 ⟨rfl, hq⟩
      have hb3 : Below (B + 2) w1 w3 := HE.out _ _ HB2.out hq
      clear hq p0 p1 p2 p3 p4 p5 q0 q1 q2 q3 q4 q5
      obtain ⟨p0, p1, p2, p3, p4, p5, _, _, _, _, _, _⟩ := (HX1.out.below hb3 (by omega)).s
      obtain ⟨q0, q1, q2, q3, q4, q5, _, _, _, _, _, _⟩ := (HX2.out.below hb3 (by omega)).s
      have HB3 := Lib.hid hb3
      clear hb3
      cases f0 with
      | false =>
        obtain rfl := HNO.out (HFF.out rfl)
        go_wp2_with fail
        go_ret
        exact ⟨rfl, HB1.out.trans (HB3.out.mono (by omega))⟩
      | true =>
      by_cases k3 : fu = fu'
      · have d3 : (fu != fu') = false := by simpa using k3
        have d3' : (fu == fu') = true := by simpa using k3
        have HK3 := Lib.hid k3
        clear k3
        by_cases k4 : dn = dn'
        · have d4 : (dn != dn') = false := by simpa using k4
          have d4' : (dn == dn') = true := by simpa using k4
          have HK4 := Lib.hid k4
          clear k4
          go_wp2_with fail
          clear p0 p1 p2 p3 p4 p5 q0 q1 q2 q3 q4 q5
          go_loopw [53] (fun i wr => ∃ k : Nat, k ≤ n ∧ i = .int .i64 k ∧ Below (B + 2) w1 wr ∧ d.blocks.take k = d'.blocks.take k) (fun i _ => n - (intOf i).toNat)
          case atStart => exact ⟨0, by omega, rfl, HB3.out, rfl⟩
          case round =>
            obtain ⟨k, hk, rfl, hBr, htk⟩ := hrel
            have HTK := Lib.hid htk
            clear htk
            obtain ⟨p0, p1, p2, p3, p4, p5, _, _, _, _, _, _⟩ := (HX1.out.below hBr (by omega)).s
            obtain ⟨q0, q1, q2, q3, q4, q5, _, _, _, _, _, _⟩ := (HX2.out.below hBr (by omega)).s
            by_cases hlt : k < n
            · obtain ⟨g, o, rfl, hg, hz, g1⟩ := (HDW.out _ hBr).1.b.1.at hlt
              obtain ⟨g', o', rfl, hg', hz', g1'⟩ := (HDW.out _ hBr).2.b.1.at hlt
              have hkl : k < d.blocks.length := by rw [HL0.out]; exact hlt
              have hkl' : k < d'.blocks.length := by rw [HL0'.out]; exact hlt
              rw [List.getElem_map] at g1 g1'
              obtain ⟨x, hx⟩ : ∃ x, d.blocks[k] = x := ⟨_, rfl⟩
              obtain ⟨y, hy⟩ : ∃ y, d'.blocks[k] = y := ⟨_, rfl⟩
              rw [hx] at g1
              rw [hy] at g1'
              have i0 : (0 : Int) ≤ (k : Int) := by omega
              have i1 : (k : Int) < (n : Int) := by omega
              have HBR := Lib.hid hBr
              by_cases he : x = y
              · subst he
                have HS := Lib.hid (Dv.take_step hkl hkl' HTK.out (hx.trans hy.symm))
                clear hx hy hz hz' hkl hkl' hBr
                go_wp2_with fail
                go_quiet (fail)
                go_wp2_with fail
                go_roundw
                case rel => exact ⟨k + 1, by omega, by go_num, Dv.bq HBR.out, HS.out⟩
                case measure => simp [intOf]; omega
              · have hxy : (x.toList == y.toList) = false := str_ne he
                obtain rfl := HNO.out (fun e => he (by subst e; rw [← hx, ← hy]))
                clear hx hy hz hz' hkl hkl' hBr he
                go_wp2_with fail
                go_quiet (fail)
                go_wp2_with fail
                go_ret
                exact ⟨rfl, HB1.out.trans (Dv.bq (HBR.out.mono (by omega)))⟩
            · obtain rfl : k = n := by omega
              have htk := HTK.out
              rw [List.take_of_length_le (by rw [HL0.out]; exact Nat.le_refl _), List.take_of_length_le (by rw [HL0'.out]; exact Nat.le_refl _)] at htk
              obtain rfl := HOK.out (by simp) (by simp) HK1.out HK3.out HK4.out htk
              clear htk
              have HBR := Lib.hid hBr
              clear hBr
              go_wp2_with fail
              go_ret
              exact ⟨rfl, HB1.out.trans (HBR.out.mono (by omega))⟩
        · have d4 : (dn != dn') = true := by simpa using k4
          have d4' : (dn == dn') = false := by simpa using k4
          obtain rfl := HNO.out (HNS.out (.inr (.inr (.inr k4))))
          clear k4
          go_wp2_with fail
          go_ret
          exact ⟨rfl, HB1.out.trans (HB3.out.mono (by omega))⟩
      · have d3 : (fu != fu') = true := by simpa using k3
        have d3' : (fu == fu') = false := by simpa using k3
        obtain rfl := HNO.out (HNS.out (.inr (.inr (.inl k3))))
        clear k3
        go_wp2_with fail
        go_ret
        exact ⟨rfl, HB1.out.trans (HB3.out.mono (by omega))⟩
    · have d2 : ((n : Int) == (n' : Int)) = false := beq_eq_false_iff_ne.2 (by omega)
      have d2' : ((n : Int) != (n' : Int)) = true := by rw [bne, d2]; rfl
      obtain rfl := HNO.out (HNS.out (.inr (.inl k2)))
      go_enter Try.func19, Try.ntmps19
      go_wp2_with fail
      go_ret
      exact ⟨rfl, by rw [HW1.out]; exact HB1.out⟩
  · have d1 : (sz != sz') = true := by simpa using k1
    have d1' : (sz == sz') = false := by simpa using k1
    obtain rfl := HNO.out (HNS.out (.inl k1))
    clear k1
    go_enter Try.func19, Try.ntmps19
    go_wp2_with fail
    go_ret
    exact ⟨rfl, by rw [HW1.out]; exact HB1.out⟩

end Go.Proofs.Ythdkidiemhfffaa
