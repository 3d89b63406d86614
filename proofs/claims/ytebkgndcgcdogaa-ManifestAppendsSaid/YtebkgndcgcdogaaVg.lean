/-
  Contracts of the reference of manifest: Encode, Decode.
-/
import Derived.Test.YtebkgndcgcdogaaVf
import Derived.Test.YtebkgndcgcdogaaRefC
namespace Go.Proofs.Ytebkgndcgcdogaa
open Go.RowKit
set_option maxHeartbeats 2000000

theorem own_intsIn {w : World} {B : Nat} {e : TypeId} {v : Value} {n : Nat} {z : List Int} (h : w.ownsRow B e 1 v n (z.map (Value.int .i64))) (hw : ∀ x ∈ z, -9223372036854775808 ≤ x ∧ x ≤ 9223372036854775807) :
    ∃ A c, v = .slice A n c ∧ IntsIn .i64 w A n c z := by
  have hl : z.length = n := by have := h.1; simpa using this
  have hwf : ∀ x ∈ z, (Lit.int .i64 x).wf = true := fun x hx => by
    have := hw x hx
    simp [Lit.wf, IntKind.min, IntKind.max, IntKind.signed, IntKind.bits]; omega
  rcases h.2 with ⟨rfl, h0⟩ | ⟨g, cap, cur, hv, _, hg, hn, _⟩
  · exact ⟨none, 0, by rw [h0], hl, by omega, hwf, fun _ => rfl, fun hn => absurd hn (by omega)⟩
  · subst hv
    refine ⟨_, cap, rfl, hl, hn, hwf, (fun h => nomatch h), fun _ => ⟨g, 0, rfl, lt_of_block hg, fun i hi => ?_⟩⟩
    have := h.cells rfl i _ (by rw [List.getElem?_map, List.getElem?_eq_getElem hi]; rfl)
    have e1 : (⟨g, 0, none⟩ : Addr).add i = ⟨g, 0 + i, none⟩ := by unfold Addr.add; split <;> simp_all
    rw [e1] at this
    exact this

theorem cell_two_at (w : World) (x y : Value) (t : TypeId) (g : Nat) (hg : w.heap.size = g) : ∀ j u, [x, y][j]? = some u → (w.alloc (.cells #[x, y] t)).cell? ((⟨g, 0, none⟩ : Addr).add j) = some u := by
  subst hg; exact cell_two_new w x y t

set_option maxRecDepth 100000 in
theorem renc_any (num : Int) (A : Option Addr) (n c : Nat) (l : List Vm.Nm) (w : World) (hl : NamesIn w A n c l) (hn : n ≤ 17592186044416) :
    Calls Try.prog 29 #[.agg #[.int .i64 num, .slice A n c]] w fun e w' => e = .returned (.tuple #[Wm.str (Vm.enc num l).1, .int .i64 (Vm.enc num l).2]) ∧ Below w.heap.size w w' := by
  have C1 := Lib.hid (fun V h => rchkV_any num A n c l V h hn)
  obtain ⟨B, hB⟩ : ∃ B, w.heap.size = B := ⟨_, rfl⟩
  obtain ⟨w1, hw1⟩ : ∃ V, w.alloc (.cells #[.int .i64 num, .slice A n c] 25) = V := ⟨_, rfl⟩
  have hb1 : Below B w w1 := by rw [← hw1, ← hB]; exact (Below.refl _ _).alloc (Nat.le_refl _) _
  have hs1 : w1.heap.size = B + 1 := by rw [← hw1]; simp [hB]
  have va : VB B num (.slice A n c) w1 := by
    rw [← hw1, ← hB]
    exact heap_alloc_new _ _
  have HL := Lib.hid (hl.below (hb1.mono (by omega)))
  have HL0 := Lib.hid hl
  have HW1 := Lib.hid hw1
  have HVA := Lib.hid va
  have HB1 := Lib.hid hb1
  have HBB := Lib.hid hB
  have hla := hl.1
  clear hl hw1 va hb1
  by_cases h1 : Vm.chk num l = 0
  · have hla2 : n ≤ 256 := by rw [← hla]; exact (Vm.chk_zero h1).2.2.1
    have hnum : 1 ≤ num ∧ num < 2147483647 := ⟨(Vm.chk_zero h1).1, (Vm.chk_zero h1).2.1⟩
    have hsz : ∀ x ∈ l, 0 ≤ x.1 ∧ x.1 < 2147483647 ∧ 1 ≤ x.2 ∧ x.2 ≤ 256 := (Vm.chk_zero h1).2.2.2
    have HF := Lib.hid (show Vm.enc num l = (Wm.encI num ++ Wm.encL (Vm.flat l), 0) by unfold Vm.enc; rw [if_pos h1])
    obtain ⟨i0, hi, hz0, hz1, hz2⟩ := info_parts info_int
    rw [h1] at C1
    have HSZ := Lib.hid hsz
    clear h1 hsz
    go_enter Try.func29, Try.ntmps29
    go_wp2_with fail
    rw [HW1.out]
    refine (C1.out _ HL.out).mono ?_
    rintro e w2 ⟨rfl, hb2⟩
    have hv2 := HVA.out.below hb2 (by omega)
    have q0 := hv2.c0
    have q1 := hv2.c1
    have hs2 := hb2.size
    have HV2 := Lib.hid hv2
    have HB2 := Lib.hid (show Below (B + 1) w1 w2 from hb2.mono (by omega))
    clear hb2 hv2
    go_wp2_with fail
    go_loopw [5, 16] (fun u i wr => ∃ k : Nat, k ≤ n ∧ i = .int .i64 k ∧ wr.ownsRow (B + 1) 3 1 u (Vm.flat (l.take k)).length ((Vm.flat (l.take k)).map (Value.int .i64)) ∧ Below (B + 1) w1 wr) (fun u i wr => n - (intOf i).toNat)
    case atStart => exact ⟨0, by omega, rfl, World.ownsRow_nil _ _ _ _, HB2.out⟩
    case round =>
      obtain ⟨k, hk, rfl, hrow, hBr⟩ := hrel
      have hsz := hBr.size
      by_cases hlt : k < n
      · have d8 : decide ((k : Int) < (n : Int)) = true := by simp; omega
        obtain ⟨g, q, rfl, hg, hz', y0, y1⟩ := HL0.out.at hlt
        have hBw : Below B w wr := HB1.out.trans (hBr.mono (by omega))
        have z0 := (hBw.cell (p := ⟨g, q + k * 2, none⟩) (by rw [← HBB.out]; exact hg)).trans y0
        have z1 := (hBw.cell (p := ⟨g, q + k * 2 + 1, none⟩) (by rw [← HBB.out]; exact hg)).trans y1
        obtain ⟨x, hx⟩ : ∃ x, l[k] = x := ⟨_, rfl⟩
        rw [hx] at z0 z1
        have hfl : Vm.flat (l.take (k + 1)) = Vm.flat (l.take k) ++ [x.1, x.2] := by rw [List.take_succ_eq_append_getElem hz', Vm.flat_snoc, hx]
        have hfn : (Vm.flat (l.take k)).length = 2 * k := by rw [Vm.flat_length, List.length_take]; omega
        obtain ⟨x0, x1⟩ := x
        simp only at z0 z1 hfl
        obtain ⟨P, hP⟩ : ∃ P, Vm.flat (l.take k) = P := ⟨_, rfl⟩
        rw [hP] at hfl hfn hrow
        have HFL := Lib.hid hfl
        have HFN := Lib.hid hfn
        have HROW := Lib.hid hrow
        have HBR := Lib.hid hBr
        have HRL := Lib.hid (fun b' (hb' : u5.ownBlock = some b') => World.ownsRow.lt hrow b' hb')
        obtain ⟨wo, hwo⟩ : ∃ wo : World, wo = wr := ⟨_, rfl⟩
        have hfn2 := hfn
        clear y0 y1 hz' hx hfl hP hrow hBr hg hBw hfn hwo wo
        go_wp2_with (at_builtin; refine wpList_append_own _ rfl _ _ 22 rfl (B + 1) 3 i0 (.int .i64 0) 1 8 Try.underlying22 hi hz0 hz1 hz2 rfl (by decide) _ _ _ rfl ((HROW.out.alloc _).alloc _) ⟨wr.heap.size + 1, 0, none⟩ 2 2 [.int .i64 x0, .int .i64 x1] rfl rfl (cell_two_at _ _ _ _ _ (by simp)) (by simp [Value.oneCell']) (by unfold maxLen; omega) (by omega) (by simp; omega) ?_; intro v' w5 hown' hgrow _; have HO := Lib.hid hown'; have HG := Lib.hid hgrow; clear hown' hgrow)
        have HB5 := Lib.hid (show Below (B + 1) w1 w5 from ((HBR.out.alloc (by omega) _).alloc (by simp; omega) _).grown HG.out (by simp; omega) (fun b hb => (HRL.out b hb).1))
        go_roundw
        case rel => exact ⟨k + 1, by omega, by go_num, by rw [HFL.out, List.length_append, List.map_append]; exact HO.out, HB5.out⟩
        case measure => simp [intOf]; omega
      · obtain rfl : k = n := by omega
        have d8 : decide ((k : Int) < (k : Int)) = false := by simp
        rw [List.take_of_length_le (by rw [hla]; exact Nat.le_refl _)] at hrow
        have hv := HVA.out.below hBr (by omega)
        have q0' := hv.c0
        have hfn : (Vm.flat l).length = 2 * k := by rw [Vm.flat_length, hla]
        rw [hfn] at hrow
        obtain ⟨A2, c2, rfl, hii⟩ := own_intsIn hrow (fun y hy => by
          unfold Vm.flat at hy
          obtain ⟨x, hx, hy⟩ := List.mem_flatMap.1 hy
          obtain ⟨h0, h1, h2, h3⟩ := HSZ.out x hx
          simp only [List.mem_cons, List.not_mem_nil, or_false] at hy
          rcases hy with rfl | rfl <;> omega)
        have HII := Lib.hid hii
        have HBR := Lib.hid hBr
        clear hii hrow hBr hv q0 q1
        have hEl := (Wm.encI_length num).2
        obtain ⟨E, hE1, hE2, hE3⟩ : ∃ E : ByteArray, E = ⟨(Wm.encI num).toArray⟩ ∧ E.size ≤ 10 ∧ E.data.toList = Wm.encI num := ⟨_, rfl, by show Array.size _ ≤ _; simpa using hEl, by simp⟩
        have P1 := Lib.hid (fun V => (by
          have h := rput_any ⟨#[]⟩ num V (by show (0 : Nat) ≤ _; omega) (by omega) (by omega)
          rw [show Wm.str ((⟨#[]⟩ : ByteArray).data.toList ++ Wm.encI num) = .string E by rw [hE1]; rfl] at h
          exact h : Calls Try.prog 53 #[.string ⟨#[]⟩, .int .i64 num] V fun e w' => e = .returned (.string E) ∧ Below V.heap.size V w'))
        have P2 := Lib.hid (fun V h => (by
          have h := rputList_any E A2 (2 * k) c2 (Vm.flat l) V (by omega) h (by omega)
          rw [hE3] at h
          exact h : Calls Try.prog 52 #[.string E, .slice A2 (2 * k) c2] V fun e w' => e = .returned (Wm.str (Wm.encI num ++ Wm.encL (Vm.flat l))) ∧ Below V.heap.size V w'))
        clear hE1 hE2 hE3 hEl
        go_wp2_with fail
        refine (P1.out _).mono ?_
        rintro e w6 ⟨rfl, hb6⟩
        have HI6 := Lib.hid (HII.out.below hb6)
        have HB6 := Lib.hid (HBR.out.trans (hb6.mono (by omega)))
        have hs6 := hb6.size
        clear hb6
        go_wp2_with fail
        refine (P2.out _ HI6.out).mono ?_
        rintro e w7 ⟨rfl, hb7⟩
        have HB7 := Lib.hid ((HB1.out.trans (HB6.out.mono (by omega))).trans (hb7.mono (by omega)))
        clear hb7
        go_wp2_with fail
        go_ret2
        exact ⟨by rw [HF.out]; rfl, HB7.out.mono (by rw [HBB.out]; exact Nat.le_refl _)⟩
  · have HF := Lib.hid (show Vm.enc num l = ([], Vm.chk num l) by unfold Vm.enc; rw [if_neg h1])
    have g0 : (Vm.chk num l == 0) = false := beq_eq_false_iff_ne.2 h1
    obtain ⟨x, hx⟩ : ∃ x, Vm.chk num l = x := ⟨_, rfl⟩
    rw [hx] at C1 HF g0
    clear h1 hx hla
    go_enter Try.func29, Try.ntmps29
    go_wp2_with fail
    rw [HW1.out]
    refine (C1.out _ HL.out).mono ?_
    rintro e w2 ⟨rfl, hb2⟩
    have HB2 := Lib.hid (HB1.out.trans (hb2.mono (by omega)))
    clear hb2
    go_wp2_with fail
    go_ret2
    exact ⟨by rw [HF.out]; rfl, HB2.out.mono (by rw [HBB.out]; exact Nat.le_refl _)⟩

theorem Wm.list_ok (s : List UInt8) (k m : Int) : (∃ e, e ≠ 0 ∧ Wm.list s k m = ([], 0, e)) ∨ (∃ l q, Wm.list s k m = (l, q, 0) ∧ (l.length : Int) ≤ m) := by
  rcases Wm.lenR_cases s k m with ⟨e, he, h⟩ | ⟨x, q, h, _, h0, h1, _⟩
  · exact .inl ⟨e, he, by unfold Wm.list; rw [h]; simp [he]⟩
  · rcases Wm.listFrom_cases s x.toNat q [] with ⟨e, he, h2⟩ | ⟨l, q2, h2, hl⟩
    · exact .inl ⟨e, he, by unfold Wm.list; rw [h]; simpa using h2⟩
    · exact .inr ⟨l, q2, by unfold Wm.list; rw [h]; simpa using h2, by omega⟩
theorem Vm.dec_int {s : List UInt8} {e : Int} (h : Wm.int s 0 = (0, 0, e)) (he : e ≠ 0) : Vm.dec s = (0, [], e) := by unfold Vm.dec; rw [h]; simp [he]
theorem Vm.dec_list {s : List UInt8} {x q e : Int} (h : Wm.int s 0 = (x, q, 0)) (h2 : Wm.list s q 512 = ([], 0, e)) (he : e ≠ 0) : Vm.dec s = (0, [], e) := by unfold Vm.dec; rw [h]; simp only; rw [h2]; simp [he]
theorem Vm.dec_form {s : List UInt8} {x q q2 : Int} {l : List Int} (h : Wm.int s 0 = (x, q, 0)) (h2 : Wm.list s q 512 = (l, q2, 0)) (hf : ¬ (q2 = s.length ∧ l.length % 2 = 0)) : Vm.dec s = (0, [], 2) := by unfold Vm.dec; rw [h]; simp only; rw [h2]; simp only [if_true]; rw [if_neg hf]
theorem Vm.dec_ok {s : List UInt8} {x q q2 : Int} {l : List Int} (h : Wm.int s 0 = (x, q, 0)) (h2 : Wm.list s q 512 = (l, q2, 0)) (hf : q2 = s.length ∧ l.length % 2 = 0) :
    Vm.dec s = if Vm.chk x (Vm.pairs l) = 0 then (x, Vm.pairs l, 0) else (0, [], Vm.chk x (Vm.pairs l)) := by unfold Vm.dec; rw [h]; simp only; rw [h2]; simp only [if_true]; rw [if_pos hf]

set_option maxRecDepth 100000 in
theorem rdec_any (s : ByteArray) (w : World) (hs : s.size ≤ 17592186044000) :
    Calls Try.prog 31 #[.string s] w (Vm.RetV w.heap.size w (Vm.dec s.data.toList)) := by
  have hlen : s.data.toList.length = s.size := by simp
  obtain ⟨i0, hi, hz0, hz1, hz2⟩ := info_parts info_name
  obtain ⟨B, hB⟩ : ∃ B, w.heap.size = B := ⟨_, rfl⟩
  obtain ⟨w1, hw1⟩ : ∃ V, w.alloc (.cells #[Value.int .i64 0, .slice none 0 0] 25) = V := ⟨_, rfl⟩
  have hR1 : VB B 0 (.slice none 0 0) w1 := by rw [← hw1, ← hB]; exact heap_alloc_new _ _
  have hB1 : Below B w w1 := by rw [← hw1]; exact (Below.refl _ _).alloc (by omega) _
  have hs1 : w1.heap.size = B + 1 := by rw [← hw1]; simp [hB]
  have HW1 := Lib.hid hw1
  have HR1 := Lib.hid hR1
  have HB1 := Lib.hid hB1
  have HBB := Lib.hid hB
  obtain ⟨t0, t1, t2, t3⟩ := And.intro hR1.c0 (And.intro hR1.c1 (And.intro hR1.f0 hR1.f1))
  have I1 := Lib.hid (fun V => rint_any s 0 V (by omega))
  clear hw1 hR1 hB1
  rcases Wm.int_cases s.data.toList 0 with ⟨e, he, hi1⟩ | ⟨x, q, hi1, _, hq0, hq1, hx⟩
  · have HF := Lib.hid (Vm.dec_int hi1 he)
    rw [hi1] at I1
    unfold Wm.val at I1
    have g0 : (e == 0) = false := beq_eq_false_iff_ne.2 he
    clear he hi1 hlen
    go_enter Try.func31, Try.ntmps31
    go_wp2_with fail
    rw [HW1.out]
    refine (I1.out _).mono ?_
    rintro e' w' ⟨rfl, rfl⟩
    go_wp2_with fail
    exact bodyPost_ret (v := .tuple #[.agg #[.int .i64 0, .slice none 0 0], .int .i64 e]) (by simp [results, Try.results31, go_sem, t0, t1]) rfl ⟨.slice none 0 0, by rw [HF.out], by rw [HF.out]; exact NamesOwn.nil _ _, (((HB1.out).setCell (p := ⟨B, 0, none⟩) (Nat.le_refl _) _).setCell (p := ⟨B, 1, none⟩) (Nat.le_refl _) _).mono (by rw [HBB.out]; exact Nat.le_refl _)⟩
  have L1 := Lib.hid (fun V => rlist_any s q 512 V hs)
  rw [hi1] at I1
  unfold Wm.val at I1
  rcases Wm.list_ok s.data.toList q 512 with ⟨e, he, hl1⟩ | ⟨l, q2, hl1, hl2⟩
  · have HF := Lib.hid (Vm.dec_list hi1 hl1 he)
    rw [hl1] at L1
    have g0 : (e == 0) = false := beq_eq_false_iff_ne.2 he
    clear he hi1 hl1 hlen
    go_enter Try.func31, Try.ntmps31
    go_wp2_with fail
    rw [HW1.out]
    refine (I1.out _).mono ?_
    rintro e' w' ⟨rfl, rfl⟩
    go_wp2_with fail
    refine (L1.out _).mono ?_
    rintro e' w3 ⟨u, rfl, _, hb3⟩
    have hr := HR1.out.below hb3 (by omega)
    obtain ⟨t0, t1, t2, t3⟩ := And.intro hr.c0 (And.intro hr.c1 (And.intro hr.f0 hr.f1))
    have HB3 := Lib.hid (HB1.out.trans (hb3.mono (by omega)))
    clear hb3 hr
    go_wp2_with fail
    exact bodyPost_ret (v := .tuple #[.agg #[.int .i64 0, .slice none 0 0], .int .i64 e]) (by simp [results, Try.results31, go_sem, t0, t1]) rfl ⟨.slice none 0 0, by rw [HF.out], by rw [HF.out]; exact NamesOwn.nil _ _, ((HB3.out.setCell (p := ⟨B, 0, none⟩) (Nat.le_refl _) _).setCell (p := ⟨B, 1, none⟩) (Nat.le_refl _) _).mono (by rw [HBB.out]; exact Nat.le_refl _)⟩
  rw [hl1] at L1
  unfold Wm.LRet at L1
  simp only at L1
  obtain ⟨N, hN⟩ : ∃ N, l.length = N := ⟨_, rfl⟩
  rw [hN] at L1 hl2
  have hN2 : N ≤ 512 := by omega
  have cN : ((N : Int) % 2 : Int) = ((N % 2 : Nat) : Int) := by omega
  by_cases hf1 : q2 = (s.size : Int)
  · have b1 : (q2 != (s.size : Int)) = false := by simp [hf1]
    have b1' : (q2 == (s.size : Int)) = true := by simp [hf1]
    by_cases hf2 : N % 2 = 0
    · have HF := Lib.hid (Vm.dec_ok hi1 hl1 ⟨by rw [hf1, hlen], by rw [hN]; exact hf2⟩)
      have b2 : ((N : Int) % 2 != 0) = false := by rw [cN, hf2]; rfl
      have b3 : ((N : Int) % 2 == 0) = true := by rw [cN, hf2]; rfl
      obtain ⟨K, hK⟩ : ∃ K, N = 2 * K := ⟨N / 2, by omega⟩
      obtain ⟨Q, hQ⟩ : ∃ Q, Vm.pairs l = Q := ⟨_, rfl⟩
      have hQl : Q.length = K := by rw [← hQ, Vm.pairs_length, hN]; omega
      have hQg : ∀ k (hk : k < Q.length), ∃ (h0 : 2 * k < l.length) (h1 : 2 * k + 1 < l.length), Q[k] = (l[2 * k], l[2 * k + 1]) := by
        subst hQ; exact fun k hk => Vm.pairs_get l k hk
      rw [hQ] at HF
      have HQG := Lib.hid hQg
      have HQL := Lib.hid hQl
      have HN := Lib.hid hN
      clear hf1 hi1 hl1 hlen cN hQ hQg hQl hN hf2
      go_enter Try.func31, Try.ntmps31
      go_wp2_with fail
      rw [HW1.out]
      refine (I1.out _).mono ?_
      rintro e' w' ⟨rfl, rfl⟩
      go_wp2_with fail
      refine (L1.out _).mono ?_
      rintro e' w3 ⟨u, rfl, hu, hb3⟩
      obtain ⟨A, c, rfl, hci⟩ := own_cells hu
      have hr := HR1.out.below hb3 (by omega)
      have hs3 := hb3.size
      have HR3 := Lib.hid hr
      have HCI := Lib.hid hci
      have HB3 := Lib.hid (HB1.out.trans (hb3.mono (by omega)))
      clear hb3 hr hu hci
      obtain ⟨bv, hbv⟩ : ∃ bv, w3.heap.size = bv := ⟨_, rfl⟩
      obtain ⟨w4, hw4⟩ : ∃ V, w3.alloc (.cells #[Value.int .i64 x, .slice none 0 0] 25) = V := ⟨_, rfl⟩
      have hv4 : VB bv x (.slice none 0 0) w4 := by rw [← hw4, ← hbv]; exact heap_alloc_new _ _
      have hb4 : Below bv w3 w4 := by rw [← hw4]; exact (Below.refl _ _).alloc (by omega) _
      have hs4 : w4.heap.size = bv + 1 := by rw [← hw4]; simp [hbv]
      have HW4 := Lib.hid hw4
      have HV4 := Lib.hid hv4
      have HB4 := Lib.hid hb4
      clear hw4 hv4 hb4
      go_wp2_with fail
      rw [HW4.out]
      go_loopw [10] (fun i wr => ∃ (k : Nat) (v : Value), k ≤ K ∧ i = .int .i64 (2 * (k : Int)) ∧ VB bv x v wr ∧ NamesOwn wr (bv + 1) v (Q.take k) ∧ Below bv w3 wr) (fun i wr => 2 * K - (intOf i).toNat)
      case atStart => exact ⟨0, _, by omega, rfl, HV4.out, NamesOwn.nil _ _, HB4.out⟩
      case round =>
        obtain ⟨k, v, hk, rfl, hvr, hrow, hBr⟩ := hrel
        have hbs := hvr.lt
        by_cases hlt : k < K
        · have d8 : decide (2 * (k : Int) < 2 * (K : Int)) = true := by simp; omega
          obtain ⟨h0, h1, hqk⟩ := HQG.out k (by rw [HQL.out]; exact hlt)
          have hkn : 2 * k < N := by omega
          have hkn1 : 2 * k + 1 < N := by omega
          obtain ⟨g, o, rfl, hg, hz, y0⟩ := HCI.out.at hkn
          obtain ⟨g', o', hA, hg', hz', y1⟩ := HCI.out.at hkn1
          injection hA with hA
          injection hA with hA hA'
          subst hA hA'
          rw [List.getElem_map] at y0 y1
          rw [hbv] at hg
          have z0 := (hBr.cell (p := ⟨g, o + 2 * k, none⟩) hg).trans y0
          have z1 := (hBr.cell (p := ⟨g, o + (2 * k + 1), none⟩) hg).trans y1
          obtain ⟨ya, hya⟩ : ∃ y, l[2 * k] = y := ⟨_, rfl⟩
          obtain ⟨yb, hyb⟩ : ∃ y, l[2 * k + 1] = y := ⟨_, rfl⟩
          rw [hya] at z0 hqk
          rw [hyb] at z1 hqk
          have hql : k < Q.length := by rw [HQL.out]; exact hlt
          have HTK := Lib.hid (show Q.take (k + 1) = Q.take k ++ [(ya, yb)] by rw [List.take_succ_eq_append_getElem hql, hqk])
          have hkk : (Q.take k).length = k := by rw [List.length_take]; omega
          obtain ⟨P, hP⟩ : ∃ P, Q.take k = P := ⟨_, rfl⟩
          rw [hP] at hrow hkk HTK
          have HROW := Lib.hid (show NamesOwn wr.drew (bv + 1) v P from hrow)
          have HRL := Lib.hid (fun b' (hb' : v.ownBlock = some b') => (World.ownsRow.lt hrow b' hb').1)
          have HVR := Lib.hid hvr
          have HBR := Lib.hid hBr
          have q1 : wr.drew.cell? ⟨bv, 1, none⟩ = some v := hvr.c1
          have q1p : wr.cell? ⟨bv, 1, none⟩ = some v := hvr.c1
          have q2' : wr.drew.frozen? ⟨bv, 1, none⟩ = false := hvr.f1
          have z0' : wr.drew.cell? ⟨g, o + 2 * k, none⟩ = some (.int .i64 ya) := z0
          have z1' : wr.drew.cell? ⟨g, o + (2 * k + 1), none⟩ = some (.int .i64 yb) := z1
          have m0 : (0 : Int) ≤ 2 * (k : Int) := by omega
          have m1 : 2 * (k : Int) < 2 * (K : Int) := by omega
          have m2 : IntKind.i64.wrap (2 * (k : Int) + 1) = 2 * (k : Int) + 1 := by rw [IntKind.wrap_i64]; omega
          have m3 : (0 : Int) ≤ 2 * (k : Int) + 1 := by omega
          have m4 : 2 * (k : Int) + 1 < 2 * (K : Int) := by omega
          have m5 : (2 * (k : Int)).toNat = 2 * k := by omega
          have m6 : (2 * (k : Int) + 1).toNat = 2 * k + 1 := by omega
          have hbn : bv + 1 ≤ wr.heap.size := hbs
          clear y0 y1 hya hyb hqk hP hrow hvr hBr hz hz' hg'
          go_wp2_with fail
          go_region_law (refine step_append_lies _ rfl (.tmp 53) (.tmp 64) 23 rfl (bv + 1) 59 i0 (.agg #[.int .i64 0, .int .i64 0]) 2 16 Try.underlying23 hi hz0 hz1 hz2 rfl (by decide) v P.length (Vm.cells P) (by simp [Act.eval]) (HROW.out.alloc _) ⟨wr.heap.size, 0, none⟩ 1 1 [.int .i64 ya, .int .i64 yb] (by simp [Act.eval]) rfl (cell_two_new _ _ _ _) (by simp [Value.oneCell']) (by omega) (by unfold maxLen; omega) (by omega) (by simp <;> omega) _ rfl ?_; intro g4 cap4 w5 hown5 hgrow5 hat5 hlt5; have hv5 : VB bv x v w5 := (hgrow5.block bv (by simp <;> omega) (fun e => by have := HRL.out _ e.symm; omega)).trans ((Below.heap_alloc _ _ _ hbs).trans HVR.out); have d1 := hv5.c1; have d2 := hv5.f1; have HV5 := Lib.hid hv5; have HO5 := Lib.hid hown5; have HG5 := Lib.hid hgrow5; clear hv5 hown5 hgrow5 hat5 hlt5)
          all_goals have HB5 := Lib.hid (show Below bv w3 w5 from ((HBR.out.drew.alloc (by show bv ≤ wr.heap.size; omega) _).grown HG5.out (by simp <;> omega) (fun b hb => by have := HRL.out b hb; omega)))
          all_goals have HV6 := Lib.hid (show VB bv x (.slice (some ⟨g4, 0, none⟩) (k + 1) cap4) (w5.setCell ⟨bv, 1, none⟩ (.slice (some ⟨g4, 0, none⟩) (k + 1) cap4)) from two_set1 HV5.out)
          all_goals have HR6 := Lib.hid (show NamesOwn (w5.setCell ⟨bv, 1, none⟩ (.slice (some ⟨g4, 0, none⟩) (k + 1) cap4)) (bv + 1) (.slice (some ⟨g4, 0, none⟩) (k + 1) cap4) (Q.take (k + 1)) from by
            rw [HTK.out]
            refine NamesOwn.setCell ?_ (by show bv < bv + 1; omega) _
            unfold NamesOwn
            rw [Vm.cells_snoc, List.length_append, List.length_singleton]
            have h := HO5.out
            rw [hkk] at h ⊢
            exact h)
          all_goals go_wp2
          all_goals go_roundw
          all_goals first
            | exact ⟨k + 1, _, by omega, by go_num, HV6.out, HR6.out, HB5.out.setCell (by show bv ≤ bv; omega) _⟩
            | (simp [intOf]; omega)
        · obtain rfl : k = K := by omega
          have d8 : decide (2 * (k : Int) < 2 * (k : Int)) = false := by simp
          rw [List.take_of_length_le (by rw [HQL.out]; exact Nat.le_refl _)] at hrow
          obtain ⟨A2, c2, rfl, hni⟩ := own_names hrow
          rw [HQL.out] at hni hvr hrow
          have C1 := Lib.hid (fun V h => rchkV_any x A2 k c2 Q V h (by omega))
          have q1 := hvr.c1
          have q0 := hvr.c0
          have HNI := Lib.hid hni
          have HROW := Lib.hid hrow
          have HVR := Lib.hid hvr
          have HBR := Lib.hid hBr
          clear hni hrow hvr hBr
          by_cases h1 : Vm.chk x Q = 0
          · rw [h1] at C1
            rw [if_pos h1] at HF
            clear h1
            go_wp2_with fail
            refine (C1.out _ HNI.out).mono ?_
            rintro e' w6 ⟨rfl, hb6⟩
            have HV6 := Lib.hid (HVR.out.below hb6 hbs)
            have HR6 := Lib.hid (HROW.out.below hb6)
            have hr6 := (HR3.out.below HBR.out (by omega)).below hb6 (by omega)
            have HB6 := Lib.hid ((HB3.out.trans (HBR.out.mono (by omega))).trans (hb6.mono (by omega)))
            obtain ⟨t0, t1, t2, t3⟩ := And.intro hr6.c0 (And.intro hr6.c1 (And.intro hr6.f0 hr6.f1))
            have q1' := HV6.out.c1
            have q0' := HV6.out.c0
            clear hb6 hr6 q0 q1
            go_wp2_with fail
            exact bodyPost_ret (v := .tuple #[.agg #[.int .i64 x, .slice A2 k c2], .int .i64 0]) (by simp [results, Try.results31, go_sem, t0, t1]) rfl ⟨.slice A2 k c2, by rw [HF.out], by
              rw [HF.out]
              exact NamesOwn.mono (NamesOwn.setCell (a := ⟨B, 1, none⟩) (NamesOwn.setCell (a := ⟨B, 0, none⟩) HR6.out (show B < bv + 1 by omega) _) (show B < bv + 1 by omega) _) (by rw [HBB.out]; omega), ((HB6.out.setCell (p := ⟨B, 0, none⟩) (Nat.le_refl _) _).setCell (p := ⟨B, 1, none⟩) (Nat.le_refl _) _).mono (by rw [HBB.out]; exact Nat.le_refl _)⟩
          · have g0 : (Vm.chk x Q == 0) = false := beq_eq_false_iff_ne.2 h1
            rw [if_neg h1] at HF
            obtain ⟨y, hy⟩ : ∃ y, Vm.chk x Q = y := ⟨_, rfl⟩
            rw [hy] at C1 HF g0
            clear h1 hy
            go_wp2_with fail
            refine (C1.out _ HNI.out).mono ?_
            rintro e' w6 ⟨rfl, hb6⟩
            have hr6 := (HR3.out.below HBR.out (by omega)).below hb6 (by omega)
            have HB6 := Lib.hid ((HB3.out.trans (HBR.out.mono (by omega))).trans (hb6.mono (by omega)))
            obtain ⟨t0, t1, t2, t3⟩ := And.intro hr6.c0 (And.intro hr6.c1 (And.intro hr6.f0 hr6.f1))
            clear hb6 hr6 q0 q1
            go_wp2_with fail
            exact bodyPost_ret (v := .tuple #[.agg #[.int .i64 0, .slice none 0 0], .int .i64 y]) (by simp [results, Try.results31, go_sem, t0, t1]) rfl ⟨.slice none 0 0, by rw [HF.out], by rw [HF.out]; exact NamesOwn.nil _ _, ((HB6.out.setCell (p := ⟨B, 0, none⟩) (Nat.le_refl _) _).setCell (p := ⟨B, 1, none⟩) (Nat.le_refl _) _).mono (by rw [HBB.out]; exact Nat.le_refl _)⟩
    · have HF := Lib.hid (Vm.dec_form hi1 hl1 (fun h => hf2 (by rw [← hN]; exact h.2)))
      have b2 : ((N : Int) % 2 != 0) = true := by rw [cN]; simp; omega
      have b3 : ((N : Int) % 2 == 0) = false := by rw [cN]; simp; omega
      clear cN hi1 hl1 hlen hf1 hf2
      go_enter Try.func31, Try.ntmps31
      go_wp2_with fail
      rw [HW1.out]
      refine (I1.out _).mono ?_
      rintro e' w' ⟨rfl, rfl⟩
      go_wp2_with fail
      refine (L1.out _).mono ?_
      rintro e' w3 ⟨u, rfl, hu, hb3⟩
      obtain ⟨A, c, rfl, hci⟩ := own_cells hu
      have hr := HR1.out.below hb3 (by omega)
      obtain ⟨t0, t1, t2, t3⟩ := And.intro hr.c0 (And.intro hr.c1 (And.intro hr.f0 hr.f1))
      have HB3 := Lib.hid (HB1.out.trans (hb3.mono (by omega)))
      clear hb3 hr hu hci
      go_wp2_with fail
      exact bodyPost_ret (v := .tuple #[.agg #[.int .i64 0, .slice none 0 0], .int .i64 2]) (by simp [results, Try.results31, go_sem, t0, t1]) rfl ⟨.slice none 0 0, by rw [HF.out], by rw [HF.out]; exact NamesOwn.nil _ _, ((HB3.out.setCell (p := ⟨B, 0, none⟩) (Nat.le_refl _) _).setCell (p := ⟨B, 1, none⟩) (Nat.le_refl _) _).mono (by rw [HBB.out]; exact Nat.le_refl _)⟩
  · have HF := Lib.hid (Vm.dec_form hi1 hl1 (fun h => hf1 (by rw [h.1, hlen])))
    have b1 : (q2 != (s.size : Int)) = true := by simp [hf1]
    have b1' : (q2 == (s.size : Int)) = false := beq_eq_false_iff_ne.2 hf1
    clear hi1 hl1 hlen hf1
    go_enter Try.func31, Try.ntmps31
    go_wp2_with fail
    rw [HW1.out]
    refine (I1.out _).mono ?_
    rintro e' w' ⟨rfl, rfl⟩
    go_wp2_with fail
    refine (L1.out _).mono ?_
    rintro e' w3 ⟨u, rfl, hu, hb3⟩
    obtain ⟨A, c, rfl, hci⟩ := own_cells hu
    have hr := HR1.out.below hb3 (by omega)
    obtain ⟨t0, t1, t2, t3⟩ := And.intro hr.c0 (And.intro hr.c1 (And.intro hr.f0 hr.f1))
    have HB3 := Lib.hid (HB1.out.trans (hb3.mono (by omega)))
    clear hb3 hr hu hci
    go_wp2_with fail
    exact bodyPost_ret (v := .tuple #[.agg #[.int .i64 0, .slice none 0 0], .int .i64 2]) (by simp [results, Try.results31, go_sem, t0, t1]) rfl ⟨.slice none 0 0, by rw [HF.out], by rw [HF.out]; exact NamesOwn.nil _ _, ((HB3.out.setCell (p := ⟨B, 0, none⟩) (Nat.le_refl _) _).setCell (p := ⟨B, 1, none⟩) (Nat.le_refl _) _).mono (by rw [HBB.out]; exact Nat.le_refl _)⟩

end Go.Proofs.Ytebkgndcgcdogaa
