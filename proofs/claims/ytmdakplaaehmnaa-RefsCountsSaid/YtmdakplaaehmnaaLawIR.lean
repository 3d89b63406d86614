/-
  RefsCounts: its walk.
-/
import Derived.Test.YtmdakplaaehmnaaLawIO
import Derived.Test.YtmdakplaaehmnaaIy
namespace Go.Proofs.Ytmdakplaaehmnaa
open Go.RowKit
set_option maxHeartbeats 16000000

theorem cell_int_new (w : World) (x : Int) (t : TypeId) : ∀ j u, [Value.int .i64 x][j]? = some u → (w.alloc (.cells #[.int .i64 x] t)).cell? ((⟨w.heap.size, 0, none⟩ : Addr).add j) = some u := by
  intro j u hj
  rw [Addr.add_lit, cell_new_at _ _ _ _ rfl, Nat.zero_add]
  simpa using hj
theorem info_intR : (Try.prog.info? 3).map (fun i => (i.zero, i.size, i.bytes)) = some (some (.int .i64 0), 1, 8) := by kernel_rfl
theorem own_block {w : World} {B : Nat} {e : TypeId} {size : Nat} {A : Option Addr} {m c : Nat} {xs : List Value} (h : w.ownsRow B e size (.slice A m c) m xs) (hm : 0 < m) : ∃ b, A = some ⟨b, 0, none⟩ := by
  rcases h.2 with ⟨hv, h0⟩ | ⟨b, cap, cur, hv, _⟩
  · omega
  · injection hv with e1 e2 e3
    exact ⟨b, e1⟩

set_option maxRecDepth 100000 in
theorem refsCounts_walk (H : RefsSays) (A : Option Addr) (n c : Nat) (z : List Int) (w : World) (hz : IntsIn .i64 w A n c z) (hn : n ≤ 17592186044416) :
    Calls Try.prog 4 #[.slice A n c] w fun e w' => e = .returned (.bool true) ∧ Below w.heap.size w w' := by
  have HS := Lib.hid (fun V => saneI_any H V)
  have HF := Lib.hid (fun V => few_any A n c V (by omega))
  by_cases hfew : (n : Int) ≤ 500
  case neg =>
    rw [decide_eq_false hfew] at HF
    clear H
    go_enter Try.func4, Try.ntmps4
    go_wp2_with fail
    refine (HS.out _).mono ?_
    rintro e w1 ⟨rfl, hb1⟩
    have HB1 := Lib.hid hb1
    clear hb1
    go_wp2_with fail
    refine (HF.out _).mono ?_
    rintro e w2 ⟨rfl, rfl⟩
    go_wp2_with fail
    go_ret
    exact ⟨rfl, HB1.out⟩
  rw [decide_eq_true hfew] at HF
  obtain ⟨i0', hi, hz0, hz1, hz2⟩ := info_parts info_str
  obtain ⟨i1, hi1, hy0, hy1, hy2⟩ := info_parts info_intR
  have N1 := Lib.hid (fun V hb => new_any A n c w V hb)
  have X1 := Lib.hid (fun g V hd => next_any A n c z g w V 3 hz hn hd (by decide) (by decide))
  have T1 := Lib.hid (fun g V hd => mkText_any A n c z g w V 3 hz hn hd (by decide) (by decide))
  have KA := Lib.hid H.add
  have KD := Lib.hid H.drop
  have KG := Lib.hid H.get
  have KT := Lib.hid H.total
  have KC := Lib.hid H.check
  clear H hz
  go_enter Try.func4, Try.ntmps4
  go_wp2_with fail
  refine (HS.out _).mono ?_
  rintro e w1 ⟨rfl, hb1⟩
  have HB1 := Lib.hid hb1
  clear hb1
  go_wp2_with fail
  refine (HF.out _).mono ?_
  rintro e w2 ⟨rfl, rfl⟩
  go_wp2_with fail
  refine (N1.out _ HB1.out).mono ?_
  rintro e w2 ⟨rfl, hd2, hb2⟩
  obtain ⟨g, hg⟩ : ∃ g, w1.heap.size = g := ⟨_, rfl⟩
  rw [hg] at hd2 hb2 ⊢
  have hwg : w.heap.size ≤ g := hd2.2.1
  have hgl := hd2.lt
  obtain ⟨B, hB⟩ : ∃ B, w2.heap.size = B := ⟨_, rfl⟩
  rw [hB] at hgl
  obtain ⟨wx, hwx⟩ : ∃ V, w2.alloc (.cells #[.slice none 0 0] 25) = V := ⟨_, rfl⟩
  have hkx : CntIn w wx A n c g B 0 (.slice none 0 0) (.slice none 0 0) [] (fun _ => 0) none 0 0 [] :=
    { len := Nat.le_refl _, small := fun T hT => absurd hT (by simp), nodup := List.nodup_nil, texts := World.ownsRow_nil _ _ _ _, counts := World.ownsRow_nil _ _ _ _, cover := fun t ht => absurd ht (by simp), bound := fun t => Int.le_refl 0, has := .nil, fine := .nil _, rows := RowsOwn.nil _ _, rlen := rfl, deck := by rw [← hwx]; exact hd2.alloc _, var := by rw [← hwx, ← hB]; exact heap_alloc_new _ _, gB := hgl }
  have HWX := Lib.hid hwx
  have HKX := Lib.hid hkx
  clear hb2 hd2 hg hkx hwx
  go_wp2_with fail
  rw [HWX.out]
  clear hB
  go_wp2_with fail
  go_loopw [5, 6, 7] (fun s5 s6 i wr => ∃ (j n' c' : Nat) (ts : List ByteArray) (N : List UInt8 → Int) (A' : Option Addr) (lx : List Im.Rw), i = .int .i64 j ∧ j ≤ 60 ∧ CntIn w wr A n c g B j s5 s6 ts N A' n' c' lx) (fun _ _ i _ => 60 - (intOf i).toNat)
  case atStart => exact ⟨0, 0, 0, [], _, none, [], rfl, by omega, HKX.out⟩
  case round =>
    obtain ⟨j, n', c', ts, N, A', lx, rfl, hj, hk⟩ := hrel
    obtain ⟨A5, c5, rfl⟩ := own_slice hk.texts
    obtain ⟨A6, c6, rfl⟩ := own_slice hk.counts
    obtain ⟨_, _, k, hkn, hdh⟩ := hk.deck
    have M1 := Lib.hid (more_any A n c g k wr hdh)
    obtain ⟨m, hm⟩ : ∃ m, ts.length = m := ⟨_, rfl⟩
    have hmj := hk.len
    rw [hm] at hmj hk
    have HKR := Lib.hid hk
    clear hdh hk
    by_cases hgo : j < 60 ∧ k < n
    · obtain ⟨hj60, hkn'⟩ := hgo
      have d0 : decide ((j : Int) < 60) = true := by simp; omega
      rw [decide_eq_true hkn'] at M1
      rw [hm]
      have HM := Lib.hid hm
      clear hm
      go_wp2_with (first
        | (go_at_call 28; refine (M1.out).mono ?_; rintro e w3 ⟨rfl, rfl⟩; have HK3 := Lib.hid (HKR.out.below (Below.refl _ _).drew))
        | (go_at_call 14; refine (T1.out _ _ HK3.out.deck).mono ?_; rintro e w4 ⟨T, rfl, hT, hd4, hk4⟩; have HT := Lib.hid hT; have HK4 := Lib.hid (HK3.out.keep hk4 hd4); clear hT hd4 hk4)
        | fail)
      have HLI := Lib.hid (show LIn w4 g A5 m c5 ts from by have h := HK4.out.texts; rw [HM.out] at h; exact LIn.own h (Nat.lt_succ_self g))
      go_loopw [9, 47] (fun κ i wq => ∃ i0 : Nat, i = .int .i64 i0 ∧ i0 ≤ m ∧ w4 = wq ∧ ((κ = .int .i64 (-1) ∧ ∀ q (hq : q < ts.length), q < i0 → ts[q] ≠ T) ∨ ∃ (p : Nat) (hp : p < ts.length), ts[p] = T ∧ κ = .int .i64 p)) (fun _ i _ => m - (intOf i).toNat)
      case atStart => exact ⟨0, rfl, by omega, rfl, .inl ⟨rfl, fun q _ h => absurd h (by omega)⟩⟩
      case round =>
        obtain ⟨i0, rfl, hi0, rfl, hκ⟩ := hrel
        by_cases hlt : i0 < m
        · have d8 : decide ((i0 : Int) < (m : Int)) = true := by simp; omega
          obtain ⟨b, hAb, hgb, hbl, hzk, hck⟩ := HLI.out.at hlt
          subst hAb
          obtain ⟨U, hU⟩ : ∃ U, ts[i0] = U := ⟨_, rfl⟩
          rw [hU] at hck
          have HU := Lib.hid hU
          have HZK := Lib.hid hzk
          have Hκ := Lib.hid hκ
          have j1 : (0 : Int) ≤ (i0 : Int) := by omega
          clear hU hκ
          by_cases he : U = T
          · have q1 : (U.toList == T.toList) = true := str_same he
            go_wp2_with fail
            go_roundw
            case rel =>
              exact ⟨i0 + 1, by go_num, by omega, by trivial, .inr ⟨i0, HZK.out, by rw [HU.out, he], rfl⟩⟩
            case measure => simp [intOf]; omega
          · have q1 : (U.toList == T.toList) = false := str_ne he
            go_wp2_with fail
            go_roundw
            case rel =>
              refine ⟨i0 + 1, by go_num, by omega, by trivial, ?_⟩
              rcases Hκ.out with ⟨rfl, h⟩ | h
              · refine .inl ⟨rfl, fun q hq hqi => ?_⟩
                by_cases e : q = i0
                · subst e; rw [HU.out]; exact he
                · exact h q hq (by omega)
              · exact .inr h
            case measure => simp [intOf]; omega
        · obtain rfl : i0 = m := by omega
          have d8 : decide ((i0 : Int) < (i0 : Int)) = false := by simp
          have hnone : ∀ t, t ∈ ts.map (fun T => T.data.toList) → ∃ q, ∃ hq : q < ts.length, ts[q].data.toList = t := fun t ht => by
            obtain ⟨U, hU, rfl⟩ := List.mem_map.1 ht
            obtain ⟨q, hq, rfl⟩ := List.mem_iff_getElem.1 hU
            exact ⟨q, hq, rfl⟩
          have HBJ := Lib.hid HK4.out.bound
          have HFJ := Lib.hid HK4.out.fine
          have hmi : ts.length = i0 := HM.out
          rcases hκ with ⟨rfl, hno⟩ | ⟨p, hp, hpT, rfl⟩
          · have hnew : T.data.toList ∉ ts.map fun T => T.data.toList := fun h => by
              obtain ⟨q, hq, e⟩ := hnone _ h
              exact hno q hq (by omega) (bytes_ext e)
            have HNEW := Lib.hid hnew
            have HK5 := Lib.hid HK4.out.next
            have HTX := Lib.hid (show ∀ o, (w4.alloc o).ownsRow (g + 1) 9 1 (.slice A5 i0 c5) i0 (ts.map Value.string) from fun o => by
              have h := World.ownsRow.alloc HK5.out.texts o
              rw [hmi] at h; exact h)
            have HMI := Lib.hid hmi
            clear hnone hno hnew hmi
            go_wp2_with (first
              | (at_builtin; refine wpList_append_lies _ rfl _ _ 34 rfl (g + 1) 9 i0' (.string ByteArray.empty) 1 16 Try.underlying34 hi hz0 hz1 hz2 rfl (by decide) _ _ _ rfl (HTX.out _) ⟨w4.heap.size, 0, none⟩ 1 1 [.string T] rfl rfl (cell_text_new _ _ _) (by simp [Value.oneCell']) (by omega) (by unfold maxLen; omega) (by omega) (by have := HK5.out.deck.lt; simp; omega) _ rfl ?_; intro gq cap5 w5 hown5 hgrow5 hat5 hlt5; have HO5 := Lib.hid hown5; have HG5 := Lib.hid hgrow5; have hs5 := (HK5.out.mid hgrow5).2.2.2.2; have hgl5 := (HK5.out.mid hgrow5).2.2.1.lt; have HCX := Lib.hid (show ∀ o, (w5.alloc o).ownsRow (g + 1) 3 1 (.slice A6 i0 c6) i0 (ts.map (Value.ofN N)) from fun o => (by have h := World.ownsRow.alloc (HK5.out.mid HG5.out).1 o; rw [HMI.out] at h; exact h)); clear hown5 hgrow5 hat5)
              | (at_builtin; refine wpList_append_lies _ rfl _ _ 22 rfl (g + 1) 3 i1 (.int .i64 0) 1 8 Try.underlying22 hi1 hy0 hy1 hy2 rfl (by decide) _ _ _ rfl (HCX.out _) ⟨w5.heap.size, 0, none⟩ 1 1 [.int .i64 0] rfl rfl (cell_int_new _ _ _) (by simp [Value.oneCell']) (by omega) (by unfold maxLen; omega) (by omega) (by simp; omega) _ rfl ?_; intro gr cap6 w6 hown6 hgrow6 hat6 hlt6; have HO6 := Lib.hid hown6; have HG6 := Lib.hid hgrow6; clear hown6 hgrow6 hat6)
              | fail)
            clear hs5 hgl5
            have HK6 := Lib.hid (show CntIn w w6 A n c g B (j + 1) (.slice (some ⟨gq, 0, none⟩) (i0 + 1) cap5) (.slice (some ⟨gr, 0, none⟩) (i0 + 1) cap6) (ts ++ [T]) N A' n' c' lx from by
              have h5 := HO5.out
              have h6 := HO6.out
              refine HK5.out.push (by rw [HMI.out]; exact h5) HG5.out (by rw [HMI.out]; exact h6) HG6.out HT.out HNEW.out (by rw [HMI.out]; omega))
            have HTP := Lib.hid (show ∃ hp : i0 < (ts ++ [T]).length, (ts ++ [T])[i0] = T from ⟨by rw [List.length_append, HMI.out]; simp, by
              rw [List.getElem_append_right (by rw [HMI.out]; exact Nat.le_refl _)]
              simp [HMI.out]⟩)
            have HL6 := Lib.hid (show (ts ++ [T]).length = i0 + 1 by rw [List.length_append, HMI.out]; rfl)
            clear hlt d8
            obtain ⟨tq, htq⟩ : ∃ q, ts ++ [T] = q := ⟨_, rfl⟩
            rw [htq] at HK6 HTP HL6
            obtain ⟨mm, hmm⟩ : ∃ q, i0 + 1 = q := ⟨_, rfl⟩
            rw [hmm] at HK6 HL6
            rw [hmm]
            have hpm : i0 < mm := by omega
            clear hmm htq HTX HCX HNEW HM HMI HK5 HO5 HO6 HG5 HG6
            refine (X1.out _ _ HK6.out.deck).mono ?_
            rintro e w7 ⟨x, rfl, hx, hd7, hs7⟩
            have HK7 := Lib.hid (HK6.out.keep hs7.kept hd7)
            clear hd7 hs7
            obtain ⟨hp', hpT'⟩ := HTP.out
            have HPP := Lib.hid hp'
            have HPT := Lib.hid hpT'
            have hT3 : T.size ≤ 3 := HT.out
            have hsl : T.data.toList.length ≤ 3 := by simpa using hT3
            have HCC := Lib.hid (show ∀ V, CntIn w V A n c g B (j + 1) (.slice (some ⟨gq, 0, none⟩) mm cap5) (.slice (some ⟨gr, 0, none⟩) mm cap6) tq N A' n' c' lx → V.cell? ⟨gr, i0, none⟩ = some (.int .i64 (N T.data.toList)) ∧ V.frozen? ⟨gr, i0, none⟩ = false from fun V h => by
              have hc := h.counts
              rw [HL6.out] at hc
              refine ⟨?_, World.ownsRow.frozenAt hc _⟩
              rw [World.ownsRow.cellAt hc i0 (by omega), List.getElem?_map, List.getElem?_eq_getElem HPP.out, HPT.out]
              rfl)
            clear hpT'
            obtain ⟨ca7, fa7⟩ := cell_frozen_one HK7.out.var
            by_cases hx0 : 0 < x
            · have dx : decide ((0 : Int) < (x : Int)) = true := by simp; omega
              have hfa := Im.fine_add HFJ.out (by omega) (s := T.data.toList) (by omega)
              have hfn := HFJ.out.add (s := T.data.toList) (by omega)
              have hadd := fun e => HK7.out.has.add (s := T.data.toList) e
              have K1 := Lib.hid (KA.out A' n' c' lx T w7 (HK7.out.arg (by omega)) (by omega))
              obtain ⟨r, hr⟩ : ∃ r, Im.add lx T.data.toList = r := ⟨_, rfl⟩
              rw [hr] at hfa hfn hadd K1
              obtain ⟨l', fst, er⟩ := r
              simp only at hfa hfn hadd K1
              have HFN := Lib.hid hfn
              clear hr hfn
              rcases hfa with rfl | rfl
              · obtain ⟨hfst, hhas⟩ := hadd rfl
                have HHAS := Lib.hid hhas
                obtain ⟨bz, hbz⟩ : ∃ b, (N T.data.toList == 0) = b := ⟨_, rfl⟩
                have hfb : fst = bz := by rw [hfst, ← hbz]; exact (Bool.beq_eq_decide_eq _ _).symm
                subst hfb
                have hbd := HBJ.out T.data.toList
                have hbd0 := HK7.out.has.2.1 T.data.toList
                obtain ⟨NT, hNT⟩ : ∃ q, N T.data.toList = q := ⟨_, rfl⟩
                rw [hNT] at hbz HCC hbd hbd0
                have HNT := Lib.hid hNT
                have hw : IntKind.i64.wrap (NT + 1) = NT + 1 := by rw [IntKind.wrap_i64]; omega
                have hjp : (i0 : Int) < (mm : Int) := by omega
                have hjp0 : (0 : Int) ≤ (i0 : Int) := by omega
                clear hadd hfst hhas hNT hbd hbd0
                go_wp2_with (first
                  | (go_at_call 22; (with_reducible refine K1.out.mono ?_); rintro e w8 ⟨v8, rfl, ho8, hb8⟩; obtain ⟨A8, c8, rfl, hr8⟩ := own_rows ho8; clear hr8; obtain ⟨n8, hn8⟩ : ∃ b, l'.length = b := ⟨_, rfl⟩; rw [hn8] at ho8; rw [hn8]; have HN8 := Lib.hid hn8; clear hn8; have HK9 := Lib.hid ((HK7.out.below hb8).alloc (.cells #[.slice A8 n8 c8] 25)); have HR9 := Lib.hid ((ho8.mono (show g + 1 ≤ w7.heap.size from HK7.out.deck.lt)).alloc (.cells #[.slice A8 n8 c8] 25)); obtain ⟨ca9, fa9⟩ := cell_frozen_one HK9.out.var; obtain ⟨cp9, fp9⟩ := HCC.out _ HK9.out; have hgB : gr ≠ B := (fun e => own_notvar HK9.out.counts HK9.out.var (by decide) (by rw [← e]; rfl)); have cp10 := (World.cell?_setCell_other (w8.alloc (.cells #[.slice A8 n8 c8] 25)) ⟨B, 0, none⟩ ⟨gr, i0, none⟩ (.slice A8 n8 c8) (fun e => hgB (congrArg Addr.block e).symm)).trans cp9; have fp10 := (show ((w8.alloc (.cells #[.slice A8 n8 c8] 25)).setCell ⟨B, 0, none⟩ (.slice A8 n8 c8)).frozen? ⟨gr, i0, none⟩ = false from (World.frozen?_setCell _ _ _ _).trans fp9); clear ho8 hb8)
                  | fail)
                go_roundw
                case rel =>
                  have hst := HK9.out.step HL6.out HR9.out HN8.out HPP.out 1 (fun t => by unfold Im.up; have := HBJ.out t; split <;> omega) (fun t ht => Im.up_pos ht) (by rw [HPT.out]; exact HHAS.out) HFN.out hwg
                  rw [HPT.out, HNT.out] at hst
                  first
                  | exact ⟨j + 1, n8, c8, tq, _, A8, l', by go_num, by omega, hst⟩
                  | ((repeat apply Exists.intro); exact ⟨⟨j + 1, n8, c8, tq, _, A8, l', by go_num, by omega, hst⟩, rfl⟩)
                case measure => simp [intOf]; omega
              · clear hadd
                go_wp2_with (first
                  | (go_at_call 22; (with_reducible refine K1.out.mono ?_); rintro e w8 ⟨v8, rfl, ho8, hb8⟩; obtain ⟨A8, c8, rfl, hr8⟩ := own_rows ho8; clear hr8 ho8; have HK9 := Lib.hid ((HK7.out.below hb8).alloc (.cells #[.slice A8 l'.length c8] 25)); clear hb8)
                  | fail)
                go_roundw
                case rel =>
                  first
                  | exact ⟨j + 1, n', c', tq, N, A', lx, by go_num, by omega, HK9.out⟩
                  | ((repeat apply Exists.intro); exact ⟨⟨j + 1, n', c', tq, N, A', lx, by go_num, by omega, HK9.out⟩, rfl⟩)
                case measure => simp [intOf]; omega
            · obtain rfl : x = 0 := by omega
              have dx : decide ((0 : Int) < ((0 : Nat) : Int)) = false := by simp
              have hdm := HK7.out.arg (by omega)
              obtain ⟨D, hD⟩ : ∃ D, Dm.sum T.data.toList = D := ⟨_, rfl⟩
              have KS := Lib.hid (fun V => sum_any T V (by unfold maxLen; omega))
              rw [hD] at KS
              have K2 := Lib.hid (fun V h => KD.out A' n' c' lx D V h)
              have hdp := fun h => HK7.out.has.drop (s := T.data.toList) h
              have hfd := fun e => HFJ.out.drop (d := D) e
              rw [hD] at hdp
              obtain ⟨r, hr⟩ : ∃ r, Im.drop lx D = r := ⟨_, rfl⟩
              rw [hr] at hdp hfd K2
              obtain ⟨l', gone, er⟩ := r
              simp only at hdp hfd K2
              have HDP := Lib.hid hdp
              have HFD := Lib.hid hfd
              have HDM := Lib.hid hdm
              obtain ⟨zb, hzb⟩ : ∃ b, w7.heap.size = b := ⟨_, rfl⟩
              have hzB : B < zb := by rw [← hzb]; exact HK7.out.blt
              have HZ := Lib.hid (show (w7.alloc (.cells #[.slice none 0 0] 25)).heap[zb]? = some (.cells #[.slice none 0 0] 25 (0, 0)) from by rw [← hzb]; exact heap_alloc_new _ _)
              have HY2 := Lib.hid (var_alloc HK7.out.var (.cells #[.slice none 0 0] 25))
              have hjp : (i0 : Int) < (mm : Int) := by omega
              have hjp0 : (0 : Int) ≤ (i0 : Int) := by omega
              clear hdp hfd hr hD hdm
              go_wp2_with fail
              go_region_held3 (fun V => V.cell? ⟨B, 0, none⟩ = some (.slice A' n' c')) (first | exact HQ.out | go_keep) ((first
                | (go_at_call 13; (with_reducible refine (KS.out _).mono ?_); rintro e w5 ⟨rfl, rfl⟩)
                | (go_at_call 24; refine (K2.out _ (HDM.out.below (Below.refl _ _).drew)).mono ?_; rintro e w8 ⟨v8, rfl, ho8, hb8⟩; obtain ⟨A8, c8, rfl, hr8⟩ := own_rows ho8; clear hr8; obtain ⟨n8, hn8⟩ : ∃ b, l'.length = b := ⟨_, rfl⟩; rw [hn8] at ho8; rw [hn8]; have HN8 := Lib.hid hn8; clear hn8; have hby := (hb8.block B (show B < w7.heap.size by omega)).trans HK7.out.var; obtain ⟨cy8, fy8⟩ := cell_frozen_one hby; have HB8 := Lib.hid (show Below w7.heap.size w7 w8 from (Below.refl _ _).drew.trans hb8); have HR8 := Lib.hid (ho8.mono (show g + 1 ≤ w7.heap.size from HK7.out.deck.lt)); clear hb8 ho8 hby)
                | (go_at_call 24; refine (K2.out _ (HDM.out.below ((Below.refl _ _).alloc (Nat.le_refl _) _).drew)).mono ?_; rintro e w8 ⟨v8, rfl, ho8, hb8⟩; obtain ⟨A8, c8, rfl, hr8⟩ := own_rows ho8; clear hr8; obtain ⟨n8, hn8⟩ : ∃ b, l'.length = b := ⟨_, rfl⟩; rw [hn8] at ho8; rw [hn8]; have HN8 := Lib.hid hn8; clear hn8; have hby := (hb8.block B (show B < (w7.alloc _).heap.size by simp; omega)).trans HY2.out; have hbz := (hb8.block zb (show zb < (w7.alloc _).heap.size by simp; omega)).trans HZ.out; obtain ⟨cy8, fy8⟩ := cell_frozen_one hby; obtain ⟨cz8, fz8⟩ := cell_frozen_one hbz; have HQ := Lib.hid (show (w8.setCell ⟨zb, 0, none⟩ (.slice A8 n8 c8)).cell? ⟨B, 0, none⟩ = some (.slice A' n' c') from (World.cell?_setCell_other w8 ⟨zb, 0, none⟩ ⟨B, 0, none⟩ _ (fun e => absurd (congrArg Addr.block e) (show ¬ _ = _ by dsimp only; omega))).trans cy8); have HBZ := Lib.hid hbz; have HB8 := Lib.hid (show Below w7.heap.size w7 w8 from ((Below.refl _ _).alloc (Nat.le_refl _) _).drew.trans (hb8.mono (show w7.heap.size ≤ (w7.alloc _).heap.size by simp))); have HR8 := Lib.hid (ho8.mono (show zb + 1 ≤ (w7.alloc _).heap.size by simp; omega)); clear hb8 ho8 hby hbz)
                | fail))
              all_goals (
                clear cy8 fy8 ca7 fa7
                first
                | (clear cz8 fz8 HQ; obtain ⟨zz, hzz⟩ : ∃ b, zb = b := ⟨_, rfl⟩
                   obtain ⟨w9, hw9⟩ : ∃ V, w8.setCell ⟨zb, 0, none⟩ (.slice A8 n8 c8) = V := ⟨_, rfl⟩
                   have hz9 : w9.heap[zz]? = some (.cells #[.slice A8 n8 c8] 25 (0, 0)) := by rw [← hw9, ← hzz]; exact one_set HBZ.out
                   have hb9 : Below w7.heap.size w7 w9 := by rw [← hw9]; exact HB8.out.setCell (show w7.heap.size ≤ zb by omega) _
                   have hr9 : RowsOwn w9 (g + 1) (.slice A8 n8 c8) l' := by rw [← hw9]; exact (HR8.out.setCell (a := ⟨zb, 0, none⟩) (show zb < zb + 1 by omega) _).mono (by have := HK7.out.gB; omega)
                   rw [hw9, hzz]
                   clear hw9)
                | (obtain ⟨zz, hzz⟩ : ∃ b, w8.heap.size = b := ⟨_, rfl⟩
                   obtain ⟨w9, hw9⟩ : ∃ V, w8.alloc (.cells #[.slice A8 n8 c8] 25) = V := ⟨_, rfl⟩
                   have hz9 : w9.heap[zz]? = some (.cells #[.slice A8 n8 c8] 25 (0, 0)) := by rw [← hw9, ← hzz]; exact heap_alloc_new _ _
                   have hb9 : Below w7.heap.size w7 w9 := by rw [← hw9]; exact HB8.out.alloc HB8.out.size _
                   have hr9 : RowsOwn w9 (g + 1) (.slice A8 n8 c8) l' := by rw [← hw9]; exact HR8.out.alloc _
                   rw [hw9, hzz]
                   clear hw9)
                have HK9 := Lib.hid (HK7.out.below hb9)
                have HR9 := Lib.hid hr9
                obtain ⟨cz9, fz9⟩ := cell_frozen_one hz9
                obtain ⟨ca9, fa9⟩ := cell_frozen_one HK9.out.var
                obtain ⟨cp9, fp9⟩ := HCC.out _ HK9.out
                have hgB : gr ≠ B := fun e => own_notvar HK9.out.counts HK9.out.var (by decide) (by rw [← e]; rfl)
                have hbd := HBJ.out T.data.toList
                have hbd0 := HK7.out.has.2.1 T.data.toList
                have hdn := HDP.out
                obtain ⟨NT, hNT⟩ : ∃ q, N T.data.toList = q := ⟨_, rfl⟩
                rw [hNT] at cp9 hbd hbd0 hdn
                have HNT := Lib.hid hNT
                clear hNT hz9 hb9 hr9 hzz
                by_cases hN0 : NT = 0
                · have q1 : (NT == 0) = true := by rw [hN0]; rfl
                  clear hdn
                  by_cases he : er = 0
                  · have q2 : (er == 0) = true := by rw [he]; rfl
                    clear he hN0
                    go_wp2_with fail
                    go_ret
                    exact ⟨rfl, HK9.out.deck.1⟩
                  · have q2 : (er == 0) = false := beq_eq_false_iff_ne.2 he
                    clear he hN0
                    go_wp2_with fail
                    go_roundw
                    case rel =>
                      first
                      | exact ⟨j + 1, n', c', tq, N, A', lx, by go_num, by omega, HK9.out⟩
                      | ((repeat apply Exists.intro); exact ⟨⟨j + 1, n', c', tq, N, A', lx, by go_num, by omega, HK9.out⟩, rfl⟩)
                    case measure => simp [intOf]; omega
                · have q1 : (NT == 0) = false := beq_eq_false_iff_ne.2 hN0
                  obtain ⟨rfl, hgo, hhas⟩ := hdn (by omega)
                  have HHAS := Lib.hid hhas
                  obtain ⟨bz, hbz⟩ : ∃ b, (NT == 1) = b := ⟨_, rfl⟩
                  have hfb : gone = bz := by rw [hgo, ← hbz]; exact (Bool.beq_eq_decide_eq _ _).symm
                  subst hfb
                  have hw : IntKind.i64.wrap (NT - 1) = NT - 1 := by rw [IntKind.wrap_i64]; omega
                  have cp10 := (World.cell?_setCell_other w9 ⟨B, 0, none⟩ ⟨gr, i0, none⟩ (.slice A8 n8 c8) (fun e => hgB (congrArg Addr.block e).symm)).trans cp9
                  have fp10 : (w9.setCell ⟨B, 0, none⟩ (.slice A8 n8 c8)).frozen? ⟨gr, i0, none⟩ = false := (World.frozen?_setCell _ _ _ _).trans fp9
                  clear hhas hgo hN0 hbd hbd0
                  go_wp2_with fail
                  go_roundw
                  case rel =>
                    have hst := HK9.out.step HL6.out HR9.out HN8.out HPP.out (-1) (fun t => by unfold Im.up; have := HBJ.out t; split <;> omega) (fun t ht => Im.up_pos ht) (by rw [HPT.out]; exact HHAS.out) ((HFD.out rfl).mono (by omega)) hwg
                    rw [HPT.out, HNT.out, show NT + -1 = NT - 1 from rfl] at hst
                    first
                    | exact ⟨j + 1, n8, c8, tq, _, A8, l', by go_num, by omega, hst⟩
                    | ((repeat apply Exists.intro); exact ⟨⟨j + 1, n8, c8, tq, _, A8, l', by go_num, by omega, hst⟩, rfl⟩)
                  case measure => simp [intOf]; omega)
          · have hpi : p < i0 := by omega
            have HK6 := Lib.hid HK4.out.next
            obtain ⟨gr, rfl⟩ := own_block (by have h := HK4.out.counts; rw [hmi] at h; exact h) (show 0 < i0 by omega)
            have HTP := Lib.hid (show ∃ hp : p < ts.length, ts[p] = T from ⟨hp, hpT⟩)
            have HL6 := Lib.hid hmi
            clear hnone hmi hpT hp hlt d8
            have d8 : decide ((p : Int) < 0) = false := by simp
            go_wp2_with fail
            refine (X1.out _ _ HK6.out.deck).mono ?_
            rintro e w7 ⟨x, rfl, hx, hd7, hs7⟩
            have HK7 := Lib.hid (HK6.out.keep hs7.kept hd7)
            clear hd7 hs7
            obtain ⟨hp', hpT'⟩ := HTP.out
            have HPP := Lib.hid hp'
            have HPT := Lib.hid hpT'
            have hT3 : T.size ≤ 3 := HT.out
            have hsl : T.data.toList.length ≤ 3 := by simpa using hT3
            have HCC := Lib.hid (show ∀ V, CntIn w V A n c g B (j + 1) (.slice A5 i0 c5) (.slice (some ⟨gr, 0, none⟩) i0 c6) ts N A' n' c' lx → V.cell? ⟨gr, p, none⟩ = some (.int .i64 (N T.data.toList)) ∧ V.frozen? ⟨gr, p, none⟩ = false from fun V h => by
              have hc := h.counts
              rw [HL6.out] at hc
              refine ⟨?_, World.ownsRow.frozenAt hc _⟩
              rw [World.ownsRow.cellAt hc p (by omega), List.getElem?_map, List.getElem?_eq_getElem HPP.out, HPT.out]
              rfl)
            clear hpT'
            obtain ⟨ca7, fa7⟩ := cell_frozen_one HK7.out.var
            by_cases hx0 : 0 < x
            · have dx : decide ((0 : Int) < (x : Int)) = true := by simp; omega
              have hfa := Im.fine_add HFJ.out (by omega) (s := T.data.toList) (by omega)
              have hfn := HFJ.out.add (s := T.data.toList) (by omega)
              have hadd := fun e => HK7.out.has.add (s := T.data.toList) e
              have K1 := Lib.hid (KA.out A' n' c' lx T w7 (HK7.out.arg (by omega)) (by omega))
              obtain ⟨r, hr⟩ : ∃ r, Im.add lx T.data.toList = r := ⟨_, rfl⟩
              rw [hr] at hfa hfn hadd K1
              obtain ⟨l', fst, er⟩ := r
              simp only at hfa hfn hadd K1
              have HFN := Lib.hid hfn
              clear hr hfn
              rcases hfa with rfl | rfl
              · obtain ⟨hfst, hhas⟩ := hadd rfl
                have HHAS := Lib.hid hhas
                obtain ⟨bz, hbz⟩ : ∃ b, (N T.data.toList == 0) = b := ⟨_, rfl⟩
                have hfb : fst = bz := by rw [hfst, ← hbz]; exact (Bool.beq_eq_decide_eq _ _).symm
                subst hfb
                have hbd := HBJ.out T.data.toList
                have hbd0 := HK7.out.has.2.1 T.data.toList
                obtain ⟨NT, hNT⟩ : ∃ q, N T.data.toList = q := ⟨_, rfl⟩
                rw [hNT] at hbz HCC hbd hbd0
                have HNT := Lib.hid hNT
                have hw : IntKind.i64.wrap (NT + 1) = NT + 1 := by rw [IntKind.wrap_i64]; omega
                have hjp : (p : Int) < (i0 : Int) := by omega
                have hjp0 : (0 : Int) ≤ (p : Int) := by omega
                clear hadd hfst hhas hNT hbd hbd0
                go_wp2_with (first
                  | (go_at_call 22; (with_reducible refine K1.out.mono ?_); rintro e w8 ⟨v8, rfl, ho8, hb8⟩; obtain ⟨A8, c8, rfl, hr8⟩ := own_rows ho8; clear hr8; obtain ⟨n8, hn8⟩ : ∃ b, l'.length = b := ⟨_, rfl⟩; rw [hn8] at ho8; rw [hn8]; have HN8 := Lib.hid hn8; clear hn8; have HK9 := Lib.hid ((HK7.out.below hb8).alloc (.cells #[.slice A8 n8 c8] 25)); have HR9 := Lib.hid ((ho8.mono (show g + 1 ≤ w7.heap.size from HK7.out.deck.lt)).alloc (.cells #[.slice A8 n8 c8] 25)); obtain ⟨ca9, fa9⟩ := cell_frozen_one HK9.out.var; obtain ⟨cp9, fp9⟩ := HCC.out _ HK9.out; have hgB : gr ≠ B := (fun e => own_notvar HK9.out.counts HK9.out.var (by decide) (by rw [← e]; rfl)); have cp10 := (World.cell?_setCell_other (w8.alloc (.cells #[.slice A8 n8 c8] 25)) ⟨B, 0, none⟩ ⟨gr, p, none⟩ (.slice A8 n8 c8) (fun e => hgB (congrArg Addr.block e).symm)).trans cp9; have fp10 := (show ((w8.alloc (.cells #[.slice A8 n8 c8] 25)).setCell ⟨B, 0, none⟩ (.slice A8 n8 c8)).frozen? ⟨gr, p, none⟩ = false from (World.frozen?_setCell _ _ _ _).trans fp9); clear ho8 hb8)
                  | fail)
                go_roundw
                case rel =>
                  have hst := HK9.out.step HL6.out HR9.out HN8.out HPP.out 1 (fun t => by unfold Im.up; have := HBJ.out t; split <;> omega) (fun t ht => Im.up_pos ht) (by rw [HPT.out]; exact HHAS.out) HFN.out hwg
                  rw [HPT.out, HNT.out] at hst
                  first
                  | exact ⟨j + 1, n8, c8, ts, _, A8, l', by go_num, by omega, hst⟩
                  | ((repeat apply Exists.intro); exact ⟨⟨j + 1, n8, c8, ts, _, A8, l', by go_num, by omega, hst⟩, rfl⟩)
                case measure => simp [intOf]; omega
              · clear hadd
                go_wp2_with (first
                  | (go_at_call 22; (with_reducible refine K1.out.mono ?_); rintro e w8 ⟨v8, rfl, ho8, hb8⟩; obtain ⟨A8, c8, rfl, hr8⟩ := own_rows ho8; clear hr8 ho8; have HK9 := Lib.hid ((HK7.out.below hb8).alloc (.cells #[.slice A8 l'.length c8] 25)); clear hb8)
                  | fail)
                go_roundw
                case rel =>
                  first
                  | exact ⟨j + 1, n', c', ts, N, A', lx, by go_num, by omega, HK9.out⟩
                  | ((repeat apply Exists.intro); exact ⟨⟨j + 1, n', c', ts, N, A', lx, by go_num, by omega, HK9.out⟩, rfl⟩)
                case measure => simp [intOf]; omega
            · obtain rfl : x = 0 := by omega
              have dx : decide ((0 : Int) < ((0 : Nat) : Int)) = false := by simp
              have hdm := HK7.out.arg (by omega)
              obtain ⟨D, hD⟩ : ∃ D, Dm.sum T.data.toList = D := ⟨_, rfl⟩
              have KS := Lib.hid (fun V => sum_any T V (by unfold maxLen; omega))
              rw [hD] at KS
              have K2 := Lib.hid (fun V h => KD.out A' n' c' lx D V h)
              have hdp := fun h => HK7.out.has.drop (s := T.data.toList) h
              have hfd := fun e => HFJ.out.drop (d := D) e
              rw [hD] at hdp
              obtain ⟨r, hr⟩ : ∃ r, Im.drop lx D = r := ⟨_, rfl⟩
              rw [hr] at hdp hfd K2
              obtain ⟨l', gone, er⟩ := r
              simp only at hdp hfd K2
              have HDP := Lib.hid hdp
              have HFD := Lib.hid hfd
              have HDM := Lib.hid hdm
              obtain ⟨zb, hzb⟩ : ∃ b, w7.heap.size = b := ⟨_, rfl⟩
              have hzB : B < zb := by rw [← hzb]; exact HK7.out.blt
              have HZ := Lib.hid (show (w7.alloc (.cells #[.slice none 0 0] 25)).heap[zb]? = some (.cells #[.slice none 0 0] 25 (0, 0)) from by rw [← hzb]; exact heap_alloc_new _ _)
              have HY2 := Lib.hid (var_alloc HK7.out.var (.cells #[.slice none 0 0] 25))
              have hjp : (p : Int) < (i0 : Int) := by omega
              have hjp0 : (0 : Int) ≤ (p : Int) := by omega
              clear hdp hfd hr hD hdm
              go_wp2_with fail
              go_region_held3 (fun V => V.cell? ⟨B, 0, none⟩ = some (.slice A' n' c')) (first | exact HQ.out | go_keep) ((first
                | (go_at_call 13; (with_reducible refine (KS.out _).mono ?_); rintro e w5 ⟨rfl, rfl⟩)
                | (go_at_call 24; refine (K2.out _ (HDM.out.below (Below.refl _ _).drew)).mono ?_; rintro e w8 ⟨v8, rfl, ho8, hb8⟩; obtain ⟨A8, c8, rfl, hr8⟩ := own_rows ho8; clear hr8; obtain ⟨n8, hn8⟩ : ∃ b, l'.length = b := ⟨_, rfl⟩; rw [hn8] at ho8; rw [hn8]; have HN8 := Lib.hid hn8; clear hn8; have hby := (hb8.block B (show B < w7.heap.size by omega)).trans HK7.out.var; obtain ⟨cy8, fy8⟩ := cell_frozen_one hby; have HB8 := Lib.hid (show Below w7.heap.size w7 w8 from (Below.refl _ _).drew.trans hb8); have HR8 := Lib.hid (ho8.mono (show g + 1 ≤ w7.heap.size from HK7.out.deck.lt)); clear hb8 ho8 hby)
                | (go_at_call 24; refine (K2.out _ (HDM.out.below ((Below.refl _ _).alloc (Nat.le_refl _) _).drew)).mono ?_; rintro e w8 ⟨v8, rfl, ho8, hb8⟩; obtain ⟨A8, c8, rfl, hr8⟩ := own_rows ho8; clear hr8; obtain ⟨n8, hn8⟩ : ∃ b, l'.length = b := ⟨_, rfl⟩; rw [hn8] at ho8; rw [hn8]; have HN8 := Lib.hid hn8; clear hn8; have hby := (hb8.block B (show B < (w7.alloc _).heap.size by simp; omega)).trans HY2.out; have hbz := (hb8.block zb (show zb < (w7.alloc _).heap.size by simp; omega)).trans HZ.out; obtain ⟨cy8, fy8⟩ := cell_frozen_one hby; obtain ⟨cz8, fz8⟩ := cell_frozen_one hbz; have HQ := Lib.hid (show (w8.setCell ⟨zb, 0, none⟩ (.slice A8 n8 c8)).cell? ⟨B, 0, none⟩ = some (.slice A' n' c') from (World.cell?_setCell_other w8 ⟨zb, 0, none⟩ ⟨B, 0, none⟩ _ (fun e => absurd (congrArg Addr.block e) (show ¬ _ = _ by dsimp only; omega))).trans cy8); have HBZ := Lib.hid hbz; have HB8 := Lib.hid (show Below w7.heap.size w7 w8 from ((Below.refl _ _).alloc (Nat.le_refl _) _).drew.trans (hb8.mono (show w7.heap.size ≤ (w7.alloc _).heap.size by simp))); have HR8 := Lib.hid (ho8.mono (show zb + 1 ≤ (w7.alloc _).heap.size by simp; omega)); clear hb8 ho8 hby hbz)
                | fail))
              all_goals (
                clear cy8 fy8 ca7 fa7
                first
                | (clear cz8 fz8 HQ; obtain ⟨zz, hzz⟩ : ∃ b, zb = b := ⟨_, rfl⟩
                   obtain ⟨w9, hw9⟩ : ∃ V, w8.setCell ⟨zb, 0, none⟩ (.slice A8 n8 c8) = V := ⟨_, rfl⟩
                   have hz9 : w9.heap[zz]? = some (.cells #[.slice A8 n8 c8] 25 (0, 0)) := by rw [← hw9, ← hzz]; exact one_set HBZ.out
                   have hb9 : Below w7.heap.size w7 w9 := by rw [← hw9]; exact HB8.out.setCell (show w7.heap.size ≤ zb by omega) _
                   have hr9 : RowsOwn w9 (g + 1) (.slice A8 n8 c8) l' := by rw [← hw9]; exact (HR8.out.setCell (a := ⟨zb, 0, none⟩) (show zb < zb + 1 by omega) _).mono (by have := HK7.out.gB; omega)
                   rw [hw9, hzz]
                   clear hw9)
                | (obtain ⟨zz, hzz⟩ : ∃ b, w8.heap.size = b := ⟨_, rfl⟩
                   obtain ⟨w9, hw9⟩ : ∃ V, w8.alloc (.cells #[.slice A8 n8 c8] 25) = V := ⟨_, rfl⟩
                   have hz9 : w9.heap[zz]? = some (.cells #[.slice A8 n8 c8] 25 (0, 0)) := by rw [← hw9, ← hzz]; exact heap_alloc_new _ _
                   have hb9 : Below w7.heap.size w7 w9 := by rw [← hw9]; exact HB8.out.alloc HB8.out.size _
                   have hr9 : RowsOwn w9 (g + 1) (.slice A8 n8 c8) l' := by rw [← hw9]; exact HR8.out.alloc _
                   rw [hw9, hzz]
                   clear hw9)
                have HK9 := Lib.hid (HK7.out.below hb9)
                have HR9 := Lib.hid hr9
                obtain ⟨cz9, fz9⟩ := cell_frozen_one hz9
                obtain ⟨ca9, fa9⟩ := cell_frozen_one HK9.out.var
                obtain ⟨cp9, fp9⟩ := HCC.out _ HK9.out
                have hgB : gr ≠ B := fun e => own_notvar HK9.out.counts HK9.out.var (by decide) (by rw [← e]; rfl)
                have hbd := HBJ.out T.data.toList
                have hbd0 := HK7.out.has.2.1 T.data.toList
                have hdn := HDP.out
                obtain ⟨NT, hNT⟩ : ∃ q, N T.data.toList = q := ⟨_, rfl⟩
                rw [hNT] at cp9 hbd hbd0 hdn
                have HNT := Lib.hid hNT
                clear hNT hz9 hb9 hr9 hzz
                by_cases hN0 : NT = 0
                · have q1 : (NT == 0) = true := by rw [hN0]; rfl
                  clear hdn
                  by_cases he : er = 0
                  · have q2 : (er == 0) = true := by rw [he]; rfl
                    clear he hN0
                    go_wp2_with fail
                    go_ret
                    exact ⟨rfl, HK9.out.deck.1⟩
                  · have q2 : (er == 0) = false := beq_eq_false_iff_ne.2 he
                    clear he hN0
                    go_wp2_with fail
                    go_roundw
                    case rel =>
                      first
                      | exact ⟨j + 1, n', c', ts, N, A', lx, by go_num, by omega, HK9.out⟩
                      | ((repeat apply Exists.intro); exact ⟨⟨j + 1, n', c', ts, N, A', lx, by go_num, by omega, HK9.out⟩, rfl⟩)
                    case measure => simp [intOf]; omega
                · have q1 : (NT == 0) = false := beq_eq_false_iff_ne.2 hN0
                  obtain ⟨rfl, hgo, hhas⟩ := hdn (by omega)
                  have HHAS := Lib.hid hhas
                  obtain ⟨bz, hbz⟩ : ∃ b, (NT == 1) = b := ⟨_, rfl⟩
                  have hfb : gone = bz := by rw [hgo, ← hbz]; exact (Bool.beq_eq_decide_eq _ _).symm
                  subst hfb
                  have hw : IntKind.i64.wrap (NT - 1) = NT - 1 := by rw [IntKind.wrap_i64]; omega
                  have cp10 := (World.cell?_setCell_other w9 ⟨B, 0, none⟩ ⟨gr, p, none⟩ (.slice A8 n8 c8) (fun e => hgB (congrArg Addr.block e).symm)).trans cp9
                  have fp10 : (w9.setCell ⟨B, 0, none⟩ (.slice A8 n8 c8)).frozen? ⟨gr, p, none⟩ = false := (World.frozen?_setCell _ _ _ _).trans fp9
                  clear hhas hgo hN0 hbd hbd0
                  go_wp2_with fail
                  go_roundw
                  case rel =>
                    have hst := HK9.out.step HL6.out HR9.out HN8.out HPP.out (-1) (fun t => by unfold Im.up; have := HBJ.out t; split <;> omega) (fun t ht => Im.up_pos ht) (by rw [HPT.out]; exact HHAS.out) ((HFD.out rfl).mono (by omega)) hwg
                    rw [HPT.out, HNT.out, show NT + -1 = NT - 1 from rfl] at hst
                    first
                    | exact ⟨j + 1, n8, c8, ts, _, A8, l', by go_num, by omega, hst⟩
                    | ((repeat apply Exists.intro); exact ⟨⟨j + 1, n8, c8, ts, _, A8, l', by go_num, by omega, hst⟩, rfl⟩)
                  case measure => simp [intOf]; omega)
    · rw [hm]
      have HM := Lib.hid hm
      clear hm
      by_cases hj60 : j < 60
      · have d0 : decide ((j : Int) < 60) = true := by simp; omega
        have hkn' : ¬ k < n := fun h => hgo ⟨hj60, h⟩
        rw [decide_eq_false hkn'] at M1
        go_wp2_with (first
          | (go_at_call 28; refine (M1.out).mono ?_; rintro e w3 ⟨rfl, rfl⟩; have HK3 := Lib.hid (HKR.out.below (Below.refl _ _).drew))
          | fail)
        clear hgo hkn'
        go_loopw [17, 18, 19, 134] (fun a b d i wq => ∃ q : Nat, i = .int .i64 q ∧ q ≤ m ∧ a = .int .i64 (Im.S (Im.f1 N) ((ts.take q).map fun T => T.data.toList)) ∧ b = .int .i64 (Im.S (Im.f2 N) ((ts.take q).map fun T => T.data.toList)) ∧ d = .int .i64 (Im.S (Im.f3 N) ((ts.take q).map fun T => T.data.toList)) ∧ CntIn w wq A n c g B j (.slice A5 m c5) (.slice A6 m c6) ts N A' n' c' lx) (fun _ _ _ i _ => m - (intOf i).toNat)
        case atStart => exact ⟨0, rfl, by omega, rfl, rfl, rfl, HK3.out⟩
        case round =>
          obtain ⟨q, rfl, hq, rfl, rfl, rfl, hkq⟩ := hrel
          have HKQ := Lib.hid hkq
          obtain ⟨caq, faq⟩ := cell_frozen_one hkq.var
          have hb1 := Im.S_bound' (f := Im.f1 N) (C := 1) ((ts.take q).map fun T => T.data.toList) (fun t _ => by unfold Im.f1; split <;> omega)
          have hsm : ∀ t ∈ (ts.take q).map (fun T => T.data.toList), t.length ≤ 3 := fun t ht => by
            obtain ⟨U, hU, rfl⟩ := List.mem_map.1 ht
            have := hkq.small U (List.mem_of_mem_take hU)
            simpa using this
          have hb2 := Im.S_bound' (f := Im.f2 N) (C := 3) ((ts.take q).map fun T => T.data.toList) (fun t ht => by have := hsm t ht; unfold Im.f2; split <;> omega)
          have hb3 := Im.S_bound' (f := Im.f3 N) (C := 180) ((ts.take q).map fun T => T.data.toList) (fun t ht => by
            have h1 := hsm t ht
            have h2 := hkq.bound t
            have h3 := hkq.has.2.1 t
            unfold Im.f3; split
            · exact Im.small_mul h3 (by omega) h1
            · omega)
          have hlq : ((ts.take q).map fun T => T.data.toList).length = q := by rw [List.length_map, List.length_take, HM.out]; exact Nat.min_eq_left hq
          rw [hlq] at hb1 hb2 hb3
          obtain ⟨R1, hR1⟩ : ∃ R, Im.S (Im.f1 N) ((ts.take q).map fun T => T.data.toList) = R := ⟨_, rfl⟩
          obtain ⟨R2, hR2⟩ : ∃ R, Im.S (Im.f2 N) ((ts.take q).map fun T => T.data.toList) = R := ⟨_, rfl⟩
          obtain ⟨R3, hR3⟩ : ∃ R, Im.S (Im.f3 N) ((ts.take q).map fun T => T.data.toList) = R := ⟨_, rfl⟩
          rw [hR1] at hb1
          rw [hR2] at hb2
          rw [hR3] at hb3
          rw [hR1, hR2, hR3]
          have HR1 := Lib.hid hR1
          have HR2 := Lib.hid hR2
          have HR3 := Lib.hid hR3
          clear hR1 hR2 hR3 hsm hlq
          by_cases hlt : q < m
          · have d8 : decide ((q : Int) < (m : Int)) = true := by simp; omega
            obtain ⟨b, hAb, hgb, hbl, hzk, hck⟩ := (show LIn wr g A5 m c5 ts from by have h := hkq.texts; rw [HM.out] at h; exact LIn.own h (Nat.lt_succ_self g)).at hlt
            subst hAb
            obtain ⟨gr, rfl⟩ := own_block (by have h := hkq.counts; rw [HM.out] at h; exact h) (show 0 < m by omega)
            obtain ⟨T, hT⟩ : ∃ T, ts[q] = T := ⟨_, rfl⟩
            have hTs := hkq.small T (by rw [← hT]; exact List.getElem_mem hzk)
            have htk : (ts.take (q + 1)).map (fun T => T.data.toList) = (ts.take q).map (fun T => T.data.toList) ++ [T.data.toList] := by rw [← hT, ← List.take_append_getElem hzk, List.map_append]; rfl
            have hs1 := Im.S_snoc (Im.f1 N) ((ts.take q).map fun T => T.data.toList) T.data.toList
            have hs2 := Im.S_snoc (Im.f2 N) ((ts.take q).map fun T => T.data.toList) T.data.toList
            have hs3 := Im.S_snoc (Im.f3 N) ((ts.take q).map fun T => T.data.toList) T.data.toList
            rw [← htk] at hs1 hs2 hs3
            rw [HR1.out] at hs1
            rw [HR2.out] at hs2
            rw [HR3.out] at hs3
            have hTl : T.data.toList.length = T.size := Array.length_toList
            have HCC := Lib.hid (show ∀ V, CntIn w V A n c g B j (.slice (some ⟨b, 0, none⟩) m c5) (.slice (some ⟨gr, 0, none⟩) m c6) ts N A' n' c' lx → V.cell? ⟨gr, q, none⟩ = some (.int .i64 (N T.data.toList)) from fun V h => by
              have hc := h.counts
              rw [HM.out] at hc
              rw [World.ownsRow.cellAt hc q (by omega), List.getElem?_map, List.getElem?_eq_getElem hzk, hT]
              rfl)
            rw [hT] at hck
            obtain ⟨D, hD⟩ : ∃ D, Dm.sum T.data.toList = D := ⟨_, rfl⟩
            have KS := Lib.hid (fun V => sum_any T V (by unfold maxLen; omega))
            rw [hD] at KS
            have K2 := Lib.hid (KG.out A' n' c' lx D wr.drew ((hkq.arg hj).below (Below.refl _ _).drew))
            have hget := fun h => hkq.has.get (t := T.data.toList) h
            rw [hD] at hget
            have hN0 := hkq.has.2.1 T.data.toList
            have hNj := hkq.bound T.data.toList
            have hjq : (q : Int) < (m : Int) := by omega
            have hjq0 : (0 : Int) ≤ (q : Int) := by omega
            obtain ⟨NT, hNT⟩ : ∃ x, N T.data.toList = x := ⟨_, rfl⟩
            rw [hNT] at HCC hget hN0 hNj
            rw [show Im.f1 N T.data.toList = if 0 < NT then 1 else 0 by unfold Im.f1; rw [hNT]] at hs1
            rw [show Im.f2 N T.data.toList = if 0 < NT then (T.size : Int) else 0 by unfold Im.f2; rw [hNT, hTl]] at hs2
            rw [show Im.f3 N T.data.toList = if 0 < NT then NT * (T.size : Int) else 0 by unfold Im.f3; rw [hNT, hTl]] at hs3
            clear htk hT hzk hkq hNT hD hTl
            by_cases hp : 0 < NT
            · have dp : decide ((0 : Int) < NT) = true := by simpa using hp
              rw [hget hp] at K2
              simp only at K2
              rw [Cm.b_of] at K2
              rw [if_pos hp] at hs1 hs2 hs3
              have hmul := Im.small_mul (l := T.data.toList) hN0 (by omega) (by simpa using hTs)
              rw [show T.data.toList.length = T.size from Array.length_toList] at hmul
              obtain ⟨P, hP⟩ : ∃ P, NT * (T.size : Int) = P := ⟨_, rfl⟩
              rw [hP] at hmul hs3
              have e1 : IntKind.i64.wrap (NT * (T.size : Int)) = P := by rw [hP]; exact IntWalk.i64_in _ (by omega)
              have e2 : IntKind.i64.wrap (R1 + 1) = R1 + 1 := IntWalk.i64_in _ (by omega)
              have e3 : IntKind.i64.wrap (R2 + T.size) = R2 + T.size := IntWalk.i64_in _ (by omega)
              have e4 : IntKind.i64.wrap (R3 + P) = R3 + P := IntWalk.i64_in _ (by omega)
              have q1 : (T.toList == T.toList) = true := str_same rfl
              have HS1 := Lib.hid hs1
              have HS2 := Lib.hid hs2
              have HS3 := Lib.hid hs3
              clear hget hs1 hs2 hs3 hP hmul
              go_wp2_with fail
              go_region_with (first | (go_at_call 13; (with_reducible refine (KS.out _).mono ?_); rintro e w5 ⟨rfl, rfl⟩) | (go_at_call 26; refine K2.out.mono ?_; rintro e w6 ⟨rfl, hb6⟩; have HK6 := Lib.hid (HKQ.out.below ((Below.refl _ _).drew.trans hb6)); have cp6 := HCC.out _ HK6.out; clear hb6) | fail)
              all_goals (
                go_wp2_with fail
                go_roundw
                case rel =>
                  exact ⟨q + 1, by go_num, by omega, by rw [HS1.out], by rw [HS2.out], by rw [HS3.out], HK6.out⟩
                case measure => simp [intOf]; omega)
            · have dp : decide ((0 : Int) < NT) = false := by simp; omega
              rw [if_neg hp] at hs1 hs2 hs3
              have HS1 := Lib.hid hs1
              have HS2 := Lib.hid hs2
              have HS3 := Lib.hid hs3
              obtain ⟨rg, hrg⟩ : ∃ r, Im.get lx D = r := ⟨_, rfl⟩
              rw [hrg] at K2
              obtain ⟨u, cn, eg⟩ := rg
              simp only at K2
              clear hget hs1 hs2 hs3 hrg
              go_wp2_with fail
              go_region_with (first | (go_at_call 13; (with_reducible refine (KS.out _).mono ?_); rintro e w5 ⟨rfl, rfl⟩) | (go_at_call 26; refine K2.out.mono ?_; rintro e w6 ⟨rfl, hb6⟩; have HK6 := Lib.hid (HKQ.out.below ((Below.refl _ _).drew.trans hb6)); have cp6 := HCC.out _ HK6.out; clear hb6) | fail)
              all_goals (
                go_wp2_with fail
                go_roundw
                case rel =>
                  exact ⟨q + 1, by go_num, by omega, by rw [HS1.out, Int.add_zero], by rw [HS2.out, Int.add_zero], by rw [HS3.out, Int.add_zero], HK6.out⟩
                case measure => simp [intOf]; omega)
          · obtain rfl : q = m := by omega
            have d8 : decide ((q : Int) < (q : Int)) = false := by simp
            have htk : (ts.take q).map (fun T => T.data.toList) = ts.map fun T => T.data.toList := by rw [List.take_of_length_le (by rw [HM.out]; exact Nat.le_refl _)]
            obtain ⟨h1, h2, h3⟩ := hkq.has.rows hkq.nodup hkq.cover
            rw [← htk] at h1 h2 h3
            rw [HR1.out, hkq.rlen] at h1
            rw [HR2.out] at h2
            rw [HR3.out] at h3
            have KT2 := Lib.hid (KT.out A' n' c' lx wr (hkq.arg hj))
            rw [show Im.tot lx = (R2, R3, 0) by unfold Im.tot; rw [if_neg (by simp [hkq.has.1]), h2, h3]] at KT2
            simp only at KT2
            have KC2 := Lib.hid (fun V h => KC.out A' n' c' lx V h)
            rw [hkq.has.1] at KC2
            have q1 : ((n' : Int) == R1) = true := by rw [h1]; simp
            have q2 : (R2 == R2) = true := by simp
            have q3 : (R3 == R3) = true := by simp
            clear hkq htk h1 h2 h3 hb1 hb2 hb3
            go_wp2_with (first
              | (go_at_call 16; refine KT2.out.mono ?_; rintro e w6 ⟨rfl, hb6⟩; have HK6 := Lib.hid (HKQ.out.below hb6); obtain ⟨ca6, fa6⟩ := cell_frozen_one HK6.out.var; clear hb6)
              | (go_at_call 18; refine (KC2.out _ (HK6.out.arg hj)).mono ?_; rintro e w7 ⟨rfl, hb7⟩; have HB7 := Lib.hid (HK6.out.below hb7).deck.1; clear hb7)
              | fail)
            go_ret
            exact ⟨rfl, HB7.out⟩
      · have d0 : decide ((j : Int) < 60) = false := by simp; omega
        have HK3 := HKR
        go_wp2_with fail
        clear hgo
        go_loopw [17, 18, 19, 134] (fun a b d i wq => ∃ q : Nat, i = .int .i64 q ∧ q ≤ m ∧ a = .int .i64 (Im.S (Im.f1 N) ((ts.take q).map fun T => T.data.toList)) ∧ b = .int .i64 (Im.S (Im.f2 N) ((ts.take q).map fun T => T.data.toList)) ∧ d = .int .i64 (Im.S (Im.f3 N) ((ts.take q).map fun T => T.data.toList)) ∧ CntIn w wq A n c g B j (.slice A5 m c5) (.slice A6 m c6) ts N A' n' c' lx) (fun _ _ _ i _ => m - (intOf i).toNat)
        case atStart => exact ⟨0, rfl, by omega, rfl, rfl, rfl, HK3.out⟩
        case round =>
          obtain ⟨q, rfl, hq, rfl, rfl, rfl, hkq⟩ := hrel
          have HKQ := Lib.hid hkq
          obtain ⟨caq, faq⟩ := cell_frozen_one hkq.var
          have hb1 := Im.S_bound' (f := Im.f1 N) (C := 1) ((ts.take q).map fun T => T.data.toList) (fun t _ => by unfold Im.f1; split <;> omega)
          have hsm : ∀ t ∈ (ts.take q).map (fun T => T.data.toList), t.length ≤ 3 := fun t ht => by
            obtain ⟨U, hU, rfl⟩ := List.mem_map.1 ht
            have := hkq.small U (List.mem_of_mem_take hU)
            simpa using this
          have hb2 := Im.S_bound' (f := Im.f2 N) (C := 3) ((ts.take q).map fun T => T.data.toList) (fun t ht => by have := hsm t ht; unfold Im.f2; split <;> omega)
          have hb3 := Im.S_bound' (f := Im.f3 N) (C := 180) ((ts.take q).map fun T => T.data.toList) (fun t ht => by
            have h1 := hsm t ht
            have h2 := hkq.bound t
            have h3 := hkq.has.2.1 t
            unfold Im.f3; split
            · exact Im.small_mul h3 (by omega) h1
            · omega)
          have hlq : ((ts.take q).map fun T => T.data.toList).length = q := by rw [List.length_map, List.length_take, HM.out]; exact Nat.min_eq_left hq
          rw [hlq] at hb1 hb2 hb3
          obtain ⟨R1, hR1⟩ : ∃ R, Im.S (Im.f1 N) ((ts.take q).map fun T => T.data.toList) = R := ⟨_, rfl⟩
          obtain ⟨R2, hR2⟩ : ∃ R, Im.S (Im.f2 N) ((ts.take q).map fun T => T.data.toList) = R := ⟨_, rfl⟩
          obtain ⟨R3, hR3⟩ : ∃ R, Im.S (Im.f3 N) ((ts.take q).map fun T => T.data.toList) = R := ⟨_, rfl⟩
          rw [hR1] at hb1
          rw [hR2] at hb2
          rw [hR3] at hb3
          rw [hR1, hR2, hR3]
          have HR1 := Lib.hid hR1
          have HR2 := Lib.hid hR2
          have HR3 := Lib.hid hR3
          clear hR1 hR2 hR3 hsm hlq
          by_cases hlt : q < m
          · have d8 : decide ((q : Int) < (m : Int)) = true := by simp; omega
            obtain ⟨b, hAb, hgb, hbl, hzk, hck⟩ := (show LIn wr g A5 m c5 ts from by have h := hkq.texts; rw [HM.out] at h; exact LIn.own h (Nat.lt_succ_self g)).at hlt
            subst hAb
            obtain ⟨gr, rfl⟩ := own_block (by have h := hkq.counts; rw [HM.out] at h; exact h) (show 0 < m by omega)
            obtain ⟨T, hT⟩ : ∃ T, ts[q] = T := ⟨_, rfl⟩
            have hTs := hkq.small T (by rw [← hT]; exact List.getElem_mem hzk)
            have htk : (ts.take (q + 1)).map (fun T => T.data.toList) = (ts.take q).map (fun T => T.data.toList) ++ [T.data.toList] := by rw [← hT, ← List.take_append_getElem hzk, List.map_append]; rfl
            have hs1 := Im.S_snoc (Im.f1 N) ((ts.take q).map fun T => T.data.toList) T.data.toList
            have hs2 := Im.S_snoc (Im.f2 N) ((ts.take q).map fun T => T.data.toList) T.data.toList
            have hs3 := Im.S_snoc (Im.f3 N) ((ts.take q).map fun T => T.data.toList) T.data.toList
            rw [← htk] at hs1 hs2 hs3
            rw [HR1.out] at hs1
            rw [HR2.out] at hs2
            rw [HR3.out] at hs3
            have hTl : T.data.toList.length = T.size := Array.length_toList
            have HCC := Lib.hid (show ∀ V, CntIn w V A n c g B j (.slice (some ⟨b, 0, none⟩) m c5) (.slice (some ⟨gr, 0, none⟩) m c6) ts N A' n' c' lx → V.cell? ⟨gr, q, none⟩ = some (.int .i64 (N T.data.toList)) from fun V h => by
              have hc := h.counts
              rw [HM.out] at hc
              rw [World.ownsRow.cellAt hc q (by omega), List.getElem?_map, List.getElem?_eq_getElem hzk, hT]
              rfl)
            rw [hT] at hck
            obtain ⟨D, hD⟩ : ∃ D, Dm.sum T.data.toList = D := ⟨_, rfl⟩
            have KS := Lib.hid (fun V => sum_any T V (by unfold maxLen; omega))
            rw [hD] at KS
            have K2 := Lib.hid (KG.out A' n' c' lx D wr.drew ((hkq.arg hj).below (Below.refl _ _).drew))
            have hget := fun h => hkq.has.get (t := T.data.toList) h
            rw [hD] at hget
            have hN0 := hkq.has.2.1 T.data.toList
            have hNj := hkq.bound T.data.toList
            have hjq : (q : Int) < (m : Int) := by omega
            have hjq0 : (0 : Int) ≤ (q : Int) := by omega
            obtain ⟨NT, hNT⟩ : ∃ x, N T.data.toList = x := ⟨_, rfl⟩
            rw [hNT] at HCC hget hN0 hNj
            rw [show Im.f1 N T.data.toList = if 0 < NT then 1 else 0 by unfold Im.f1; rw [hNT]] at hs1
            rw [show Im.f2 N T.data.toList = if 0 < NT then (T.size : Int) else 0 by unfold Im.f2; rw [hNT, hTl]] at hs2
            rw [show Im.f3 N T.data.toList = if 0 < NT then NT * (T.size : Int) else 0 by unfold Im.f3; rw [hNT, hTl]] at hs3
            clear htk hT hzk hkq hNT hD hTl
            by_cases hp : 0 < NT
            · have dp : decide ((0 : Int) < NT) = true := by simpa using hp
              rw [hget hp] at K2
              simp only at K2
              rw [Cm.b_of] at K2
              rw [if_pos hp] at hs1 hs2 hs3
              have hmul := Im.small_mul (l := T.data.toList) hN0 (by omega) (by simpa using hTs)
              rw [show T.data.toList.length = T.size from Array.length_toList] at hmul
              obtain ⟨P, hP⟩ : ∃ P, NT * (T.size : Int) = P := ⟨_, rfl⟩
              rw [hP] at hmul hs3
              have e1 : IntKind.i64.wrap (NT * (T.size : Int)) = P := by rw [hP]; exact IntWalk.i64_in _ (by omega)
              have e2 : IntKind.i64.wrap (R1 + 1) = R1 + 1 := IntWalk.i64_in _ (by omega)
              have e3 : IntKind.i64.wrap (R2 + T.size) = R2 + T.size := IntWalk.i64_in _ (by omega)
              have e4 : IntKind.i64.wrap (R3 + P) = R3 + P := IntWalk.i64_in _ (by omega)
              have q1 : (T.toList == T.toList) = true := str_same rfl
              have HS1 := Lib.hid hs1
              have HS2 := Lib.hid hs2
              have HS3 := Lib.hid hs3
              clear hget hs1 hs2 hs3 hP hmul
              go_wp2_with fail
              go_region_with (first | (go_at_call 13; (with_reducible refine (KS.out _).mono ?_); rintro e w5 ⟨rfl, rfl⟩) | (go_at_call 26; refine K2.out.mono ?_; rintro e w6 ⟨rfl, hb6⟩; have HK6 := Lib.hid (HKQ.out.below ((Below.refl _ _).drew.trans hb6)); have cp6 := HCC.out _ HK6.out; clear hb6) | fail)
              all_goals (
                go_wp2_with fail
                go_roundw
                case rel =>
                  exact ⟨q + 1, by go_num, by omega, by rw [HS1.out], by rw [HS2.out], by rw [HS3.out], HK6.out⟩
                case measure => simp [intOf]; omega)
            · have dp : decide ((0 : Int) < NT) = false := by simp; omega
              rw [if_neg hp] at hs1 hs2 hs3
              have HS1 := Lib.hid hs1
              have HS2 := Lib.hid hs2
              have HS3 := Lib.hid hs3
              obtain ⟨rg, hrg⟩ : ∃ r, Im.get lx D = r := ⟨_, rfl⟩
              rw [hrg] at K2
              obtain ⟨u, cn, eg⟩ := rg
              simp only at K2
              clear hget hs1 hs2 hs3 hrg
              go_wp2_with fail
              go_region_with (first | (go_at_call 13; (with_reducible refine (KS.out _).mono ?_); rintro e w5 ⟨rfl, rfl⟩) | (go_at_call 26; refine K2.out.mono ?_; rintro e w6 ⟨rfl, hb6⟩; have HK6 := Lib.hid (HKQ.out.below ((Below.refl _ _).drew.trans hb6)); have cp6 := HCC.out _ HK6.out; clear hb6) | fail)
              all_goals (
                go_wp2_with fail
                go_roundw
                case rel =>
                  exact ⟨q + 1, by go_num, by omega, by rw [HS1.out, Int.add_zero], by rw [HS2.out, Int.add_zero], by rw [HS3.out, Int.add_zero], HK6.out⟩
                case measure => simp [intOf]; omega)
          · obtain rfl : q = m := by omega
            have d8 : decide ((q : Int) < (q : Int)) = false := by simp
            have htk : (ts.take q).map (fun T => T.data.toList) = ts.map fun T => T.data.toList := by rw [List.take_of_length_le (by rw [HM.out]; exact Nat.le_refl _)]
            obtain ⟨h1, h2, h3⟩ := hkq.has.rows hkq.nodup hkq.cover
            rw [← htk] at h1 h2 h3
            rw [HR1.out, hkq.rlen] at h1
            rw [HR2.out] at h2
            rw [HR3.out] at h3
            have KT2 := Lib.hid (KT.out A' n' c' lx wr (hkq.arg hj))
            rw [show Im.tot lx = (R2, R3, 0) by unfold Im.tot; rw [if_neg (by simp [hkq.has.1]), h2, h3]] at KT2
            simp only at KT2
            have KC2 := Lib.hid (fun V h => KC.out A' n' c' lx V h)
            rw [hkq.has.1] at KC2
            have q1 : ((n' : Int) == R1) = true := by rw [h1]; simp
            have q2 : (R2 == R2) = true := by simp
            have q3 : (R3 == R3) = true := by simp
            clear hkq htk h1 h2 h3 hb1 hb2 hb3
            go_wp2_with (first
              | (go_at_call 16; refine KT2.out.mono ?_; rintro e w6 ⟨rfl, hb6⟩; have HK6 := Lib.hid (HKQ.out.below hb6); obtain ⟨ca6, fa6⟩ := cell_frozen_one HK6.out.var; clear hb6)
              | (go_at_call 18; refine (KC2.out _ (HK6.out.arg hj)).mono ?_; rintro e w7 ⟨rfl, hb7⟩; have HB7 := Lib.hid (HK6.out.below hb7).deck.1; clear hb7)
              | fail)
            go_ret
            exact ⟨rfl, HB7.out⟩

end Go.Proofs.Ytmdakplaaehmnaa
