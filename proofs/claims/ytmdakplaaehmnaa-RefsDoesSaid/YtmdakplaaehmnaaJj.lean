/-
  Contracts of refs: again; slices.Insert at rows, all three ways.
-/
import Derived.Test.YtmdakplaaehmnaaJc
import Derived.Test.YtmdakplaaehmnaaJf
import Derived.Test.YtmdakplaaehmnaaJi
namespace Go.Proofs.Ytmdakplaaehmnaa
open Go.RowKit
set_option maxHeartbeats 4000000

theorem insert_any (B : Nat) (A : Option Addr) (n c i vb : Nat) (l : List Im.Rw) (x : Im.Rw) (w : World) (ho : RowsOwn w B (.slice A n c) l) (hln : l.length = n) (hn : n ≤ 4096) (hin : i ≤ n) (hB : B ≤ w.heap.size) (hne : ∀ g, A = some ⟨g, 0, none⟩ → vb ≠ g)
    (hv : w.heap[vb]? = some (.cells #[.int .i64 x.1, .int .i64 x.2.1, .string (Cm.b x.2.2)] 37 (0, 0))) :
    Calls Try.prog 38 #[.slice A n c, .int .i64 i, .slice (some ⟨vb, 0, none⟩) 1 1] w fun e w' => ∃ v', e = .returned v' ∧ RowsOwn w' B v' (l.take i ++ x :: l.drop i) ∧ Below B w w' := by
  by_cases he : i = n
  · subst he
    exact insertEnd_any B A i c vb l x w ho hln hn hB hv
  · obtain ⟨g, c', hA, _⟩ := RowsOwn.form ho (by omega)
    injection hA with h1 h2 h3
    subst h1
    by_cases hr : n + 1 ≤ c
    · exact insertRoom_any B g n c i vb l x w ho hln hn (by omega) hr (hne g rfl) hv
    · exact insertGrow_any B g n c i vb l x w ho hln hn (by omega) (by omega) hB hv

theorem Im.len_le {l : List Im.Rw} (h : Im.chk l = 0) : l.length ≤ 1024 ∧ ∀ x ∈ l, x.2.2.length ≤ 140737488355328 := by
  obtain ⟨a, b, _⟩ := Im.chk_zero h
  exact ⟨a, fun x hx => by have := (b x hx).1; omega⟩

set_option maxRecDepth 100000 in
theorem again_any (A : Option Addr) (n c p : Nat) (l : List Im.Rw) (S : ByteArray) (w : World) (hl : RowsIn w A n c l) (hc : Im.chk l = 0) (hp : p < l.length) (a ct : Int) (t : List UInt8) (hx : l[p] = (a, ct, t)) (R : List Im.Rw) (code : Int)
    (hR : (t ≠ S.data.toList ∧ R = [] ∧ code = 8) ∨ (t = S.data.toList ∧ ct = 2147483646 ∧ R = [] ∧ code = 4) ∨ (t = S.data.toList ∧ ct ≠ 2147483646 ∧ R = l.set p (a, ct + 1, t) ∧ code = 0)) :
    Calls Try.prog 36 #[.agg #[.slice A n c], .int .i64 p, .string S] w fun e w' => ∃ v, e = .returned (.tuple #[.agg #[v], .int .i64 code]) ∧ RowsOwn w' w.heap.size v R ∧ Below w.heap.size w w' := by
  have hln := hl.1
  obtain ⟨hl1024, hlz⟩ := Im.len_le hc
  obtain ⟨kz0, kz1, hct0, hct1⟩ := (Im.chk_zero hc).2.1 _ (List.getElem_mem hp)
  clear kz0 kz1
  rw [hx] at hct0 hct1
  simp only at hct0 hct1
  obtain ⟨B, hB⟩ : ∃ B, w.heap.size = B := ⟨_, rfl⟩
  obtain ⟨w1, hw1⟩ : ∃ V, (w.alloc (.cells #[.slice A n c] 25)).alloc (.cells #[.slice none 0 0] 25) = V := ⟨_, rfl⟩
  have hb1 : Below B w w1 := by rw [← hw1, ← hB]; exact ((Below.refl _ _).alloc (Nat.le_refl _) _).alloc (by simp) _
  have hs1 : w1.heap.size = B + 2 := by rw [← hw1]; simp [hB]
  have g3 : w1.cell? ⟨B, 0, none⟩ = some (.slice A n c) := by
    rw [← hw1, ← hB, World.cell?_alloc_lt _ _ _ (by simp), cell_new_at _ _ _ _ rfl]; rfl
  have x4 : w1.heap[B + 1]? = some (.cells #[.slice none 0 0] 25 (0, 0)) := by
    have e : (w.alloc (.cells #[.slice A n c] 25)).heap.size = B + 1 := by simp [hB]
    rw [← hw1, ← e]; exact heap_alloc_new _ _
  obtain ⟨g, o, rfl, hg, hzl, y0, y1, y2⟩ := hl.at (i := p) (by omega)
  rw [hx] at y0 y1 y2
  simp only at y0 y1 y2
  obtain ⟨T, hT⟩ : ∃ T, Cm.b t = T := ⟨_, rfl⟩
  have hTl : T.data.toList = t := by rw [← hT, Cm.b_list]
  rw [hT] at y2
  have z0 := (hb1.cell (p := ⟨g, o + p * 3, none⟩) (by show g < _; omega)).trans y0
  have z1 := (hb1.cell (p := ⟨g, o + p * 3 + 1, none⟩) (by show g < _; omega)).trans y1
  have z2 := (hb1.cell (p := ⟨g, o + p * 3 + 2, none⟩) (by show g < _; omega)).trans y2
  obtain ⟨wa, hwa⟩ : ∃ V, w1.alloc (.cells #[.int .i64 a, .int .i64 ct, .string T] 37) = V := ⟨_, rfl⟩
  have hna : wa.heap[B + 2]? = some (.cells #[.int .i64 a, .int .i64 ct, .string T] 37 (0, 0)) := by rw [← hwa, ← hs1]; exact heap_alloc_new _ _
  have hsa : wa.heap.size = B + 3 := by rw [← hwa]; simp [hs1]
  have hBa : Below B w wa := by rw [← hwa]; exact hb1.alloc (by omega) _
  have f1 : wa.cell? ⟨B + 2, 1, none⟩ = some (.int .i64 ct) := by simp [World.cell?, hna]
  have f2 : wa.cell? ⟨B + 2, 2, none⟩ = some (.string T) := by simp [World.cell?, hna]
  have f3 : wa.cell? ⟨B, 0, none⟩ = some (.slice (some ⟨g, o, none⟩) n c) := by rw [← hwa]; exact (World.cell?_alloc_lt _ _ _ (by show B < _; omega)).trans g3
  have x5 : wa.heap[B + 1]? = some (.cells #[.slice none 0 0] 25 (0, 0)) := by rw [← hwa]; exact (Below.heap_alloc w1 _ _ (by omega)).trans x4
  obtain ⟨t5, t5f⟩ := cell_frozen_one x5
  rw [← hw1] at z0 z1 z2
  rw [← hwa, ← hw1] at f1 f2 f3 t5 t5f hsa hBa x5
  have CP := Lib.hid (fun V (hV : Below w.heap.size w V) => copied_any (some ⟨g, o, none⟩) n c l V (hl.below hV) hlz (by omega))
  have X5 := Lib.hid x5
  have HX := Lib.hid hx
  have HLN := Lib.hid hln
  have HPL := Lib.hid hp
  have HBA := Lib.hid hBa
  have HSA := Lib.hid hsa
  have j1 : (0 : Int) ≤ (p : Int) := by omega
  have j2 : (p : Int) < (n : Int) := by omega
  clear hl hw1 hb1 hwa hBa hsa hna x4 x5 hx hln hlz hc hT hzl hg y0 y1 y2
  rw [hB] at CP ⊢
  rcases hR with ⟨hne, rfl, rfl⟩ | ⟨he, rfl, rfl, rfl⟩ | ⟨he, hct, rfl, rfl⟩
  · have q1 : (T.toList == S.toList) = false := str_ne (fun e => hne (by rw [← hTl, e]))
    clear hne hTl
    go_enter Try.func36, Try.ntmps36
    go_wp2_with fail
    exact bodyPost_ret (v := .tuple #[.agg #[.slice none 0 0], .int .i64 8]) (by simp [results, Try.results36, go_sem, t5]) rfl ⟨.slice none 0 0, rfl, RowsOwn.nil _ _, HBA.out⟩
  · have q1 : (T.toList == S.toList) = true := str_same (bytes_ext (by rw [hTl, he]))
    clear he hTl
    go_enter Try.func36, Try.ntmps36
    go_wp2_with fail
    exact bodyPost_ret (v := .tuple #[.agg #[.slice none 0 0], .int .i64 4]) (by simp [results, Try.results36, go_sem, t5]) rfl ⟨.slice none 0 0, rfl, RowsOwn.nil _ _, HBA.out⟩
  · have q1 : (T.toList == S.toList) = true := str_same (bytes_ext (by rw [hTl, he]))
    have q2 : (ct == 2147483646) = false := beq_eq_false_iff_ne.2 hct
    have q3 : IntKind.i64.wrap (ct + 1) = ct + 1 := by rw [IntKind.wrap_i64]; omega
    clear he hTl hct
    go_enter Try.func36, Try.ntmps36
    go_wp2_with (first | (go_at_call 39; with_reducible refine (CP.out _ HBA.out).mono ?_; rintro e w4 ⟨v4, rfl, ho4, hb4⟩; rw [HSA.out] at ho4 hb4; obtain ⟨g4, c4, hv4, hgB, hgl, hgc⟩ := RowsOwn.form ho4 (Nat.lt_of_le_of_lt (Nat.zero_le _) HPL.out); rw [HLN.out] at hv4 hgc; subst hv4; obtain ⟨⟨u0, u1, u2⟩, fz⟩ := RowsOwn.rd ho4 HLN.out HPL.out; rw [HX.out] at u0 u1 u2; simp only at u0 u1 u2; have fz1 := fz (p * 3 + 1); have x7 := (hb4.block (B + 1) (by omega)).trans X5.out; obtain ⟨t7, f7⟩ := cell_frozen_one x7; have HO4 := Lib.hid ho4; have HB4 := Lib.hid (show Below B w w4 from HBA.out.trans (hb4.mono (by omega))); clear ho4 hb4 x7 fz u0 u2) | fail)
    have hgne : g4 ≠ B + 1 := by omega
    have t8 := (World.cell?_setCell_other w4 ⟨g4, p * 3 + 1, none⟩ ⟨B + 1, 0, none⟩ (.int .i64 (ct + 1)) (fun e => hgne (congrArg Addr.block e))).trans t7
    have r7 := World.cell?_setCell_same _ _ (.slice (some ⟨g4, 0, none⟩) n c4) t8
    have HO8 := Lib.hid (show RowsOwn ((w4.setCell ⟨g4, p * 3 + 1, none⟩ (.int .i64 (ct + 1))).setCell ⟨B + 1, 0, none⟩ (.slice (some ⟨g4, 0, none⟩) n c4)) B (.slice (some ⟨g4, 0, none⟩) n c4) (l.set p (a, ct + 1, t)) from by
      have h := ((RowsOwn.setc HO4.out HLN.out HPL.out (ct + 1)).setFar (a := ⟨B + 1, 0, none⟩) hgne (.slice (some ⟨g4, 0, none⟩) n c4)).mono (show B ≤ B + 3 by omega)
      rw [HX.out] at h
      exact h)
    exact bodyPost_ret (v := .tuple #[.agg #[.slice (some ⟨g4, 0, none⟩) n c4], .int .i64 0]) (by simp [results, Try.results36, go_sem, r7]) rfl ⟨.slice (some ⟨g4, 0, none⟩) n c4, rfl, HO8.out, (HB4.out.setCell (by show B ≤ g4; omega) _).setCell (by show B ≤ B + 1; omega) _⟩

end Go.Proofs.Ytmdakplaaehmnaa
