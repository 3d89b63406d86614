/-
  RefsOrder: its walk.
-/
import Derived.Test.YtmdakplaaehmnaaLawIC
import Derived.Test.YtmdakplaaehmnaaIx
import Derived.Deep.AppendLies
namespace Go.Proofs.Ytmdakplaaehmnaa
open Go.RowKit
set_option maxHeartbeats 8000000

theorem cell_text_new (w : World) (T : ByteArray) (t : TypeId) : ∀ j u, [Value.string T][j]? = some u → (w.alloc (.cells #[.string T] t)).cell? ((⟨w.heap.size, 0, none⟩ : Addr).add j) = some u := by
  intro j u hj
  rw [Addr.add_lit, cell_new_at _ _ _ _ rfl, Nat.zero_add]
  simpa using hj
def sliceLen : Value → Nat
  | .slice _ n _ => n
  | _ => 0
abbrev tl (T : ByteArray) : List UInt8 := T.data.toList

theorem step_append_none {P : Program} {ops : Array Oper} {o : Oper} {a : Act} {w : World} {K : Act → World → Prop} {Q : Exit → Act → World → Prop} {E : Prop}
    (hg : o.guard = none) (s x : Operand) (t : TypeId) (hop : o.op = Op.call { callee := Callee.builtin Builtin.append, args := #[s, x], argTypes := #[t, t] })
    (e : TypeId) (i : TypeInfo) (h1 : P.underlying t = some (.slice e)) (h2 : P.info? e = some i)
    (b off n cap : Nat) (hs : a.eval s = .slice (some ⟨b, off, none⟩) n cap) (hn : n ≤ cap) (ad : Addr) (c : Nat) (hx : a.eval x = .slice (some ad) 0 c)
    (hK : K (a.put o.dst (.slice (some ⟨b, off, none⟩) n cap)) w) :
    if Region.wanted o (yielded ops a.tmps) = true then Oper.wp P o a w K Q else E :=
  step_append_room hg s x t hop e i i.size h1 h2 rfl b off n cap hs ad 0 c [] hx (by simp) (fun j u h => by simp at h) (fun u h => by simp at h) (by omega) (fun j h => by simp at h) hK
theorem LIn.init {w : World} {g b p c : Nat} {ts : List ByteArray} (h : LIn w g (some ⟨b, 0, none⟩) (p + 1) c ts) : LIn w g (some ⟨b, 0, none⟩) p p (ts.eraseIdx p) := by
  obtain ⟨h1, h2, h3⟩ := h
  obtain ⟨b', hA, hg, hb, hc⟩ := h3 (by omega)
  refine ⟨by rw [List.length_eraseIdx, if_pos (by omega)]; omega, Nat.le_refl _, fun _ => ⟨b', hA, hg, hb, fun i hi => ?_⟩⟩
  have hip : i < p := by rw [List.length_eraseIdx, if_pos (by omega)] at hi; omega
  rw [List.getElem_eraseIdx_of_lt (by omega) hip]
  exact hc i (by omega)

set_option maxRecDepth 100000 in
theorem refsOrder_walk (H : RefsSays) (A : Option Addr) (n c : Nat) (z : List Int) (w : World) (hz : IntsIn .i64 w A n c z) (hn : n ≤ 17592186044416) :
    Calls Try.prog 7 #[.slice A n c] w fun e w' => e = .returned (.bool true) ∧ Below w.heap.size w w' := by
  have HS := Lib.hid (fun V => saneI_any H V)
  have HF := Lib.hid (fun V => few_any A n c V (by omega))
  by_cases hfew : (n : Int) ≤ 500
  case neg =>
    rw [decide_eq_false hfew] at HF
    clear H
    go_enter Try.func7, Try.ntmps7
    go_wp2_with fail
    refine (HS.out _).mono ?_
    rintro e w1 ⟨rfl, hb1⟩
    have HB1 := Lib.hid hb1
    clear hb1
    go_wp2_with fail
    refine (HF.out _).mono ?_
    rintro e w2 ⟨rfl, rfl⟩
    go_wp2_with fail
    go_ret
    exact ⟨rfl, HB1.out⟩
  rw [decide_eq_true hfew] at HF
  obtain ⟨i0, hi, hz0, hz1, hz2⟩ := info_parts info_str
  have N1 := Lib.hid (fun V hb => new_any A n c w V hb)
  have X1 := Lib.hid (fun g V (m : Int) h1 h2 hd => next_any A n c z g w V m hz hn hd h1 h2)
  have T1 := Lib.hid (fun g V hd => mkText_any A n c z g w V 4 hz hn hd (by decide) (by decide))
  have KA := Lib.hid H.add
  have KM := Lib.hid H.same
  clear H hz
  go_enter Try.func7, Try.ntmps7
  go_wp2_with fail
  refine (HS.out _).mono ?_
  rintro e w1 ⟨rfl, hb1⟩
  have HB1 := Lib.hid hb1
  clear hb1
  go_wp2_with fail
  refine (HF.out _).mono ?_
  rintro e w2 ⟨rfl, rfl⟩
  go_wp2_with fail
  refine (N1.out _ HB1.out).mono ?_
  rintro e w2 ⟨rfl, hd2, hb2⟩
  obtain ⟨g, hg⟩ : ∃ g, w1.heap.size = g := ⟨_, rfl⟩
  rw [hg] at hd2 hb2 ⊢
  have hwg : w.heap.size ≤ g := hd2.2.1
  have HD2 := Lib.hid hd2
  clear hb2 hd2 hg
  go_wp2_with fail
  refine (X1.out _ _ _ (by decide) (by decide) HD2.out).mono ?_
  rintro e w3 ⟨x0, rfl, hx0, hd3, hsb3⟩
  have hs3 := hd3.lt
  have HD3 := Lib.hid hd3
  clear hd3 hsb3
  go_wp2_with fail
  go_loopw [4, 5] (fun s i wr => ∃ (j m : Nat) (ts : List ByteArray), i = .int .i64 j ∧ ts.length = m ∧ m + j ≤ 8 ∧ (∀ T ∈ ts, T.size ≤ 4) ∧ wr.ownsRow (g + 1) 9 1 s m (ts.map Value.string) ∧ DeckIn w A n c g wr ∧ g + 1 ≤ wr.heap.size) (fun _ i _ => (intOf i).toNat)
  case atStart => exact ⟨x0, 0, [], rfl, rfl, by omega, fun T hT => absurd hT (by simp), World.ownsRow_nil _ _ _ _, HD3.out, hs3⟩
  case round =>
    obtain ⟨j, m, ts, rfl, hm, hmj, h4, ho, hd, hsz⟩ := hrel
    have HM := Lib.hid hm
    have H4 := Lib.hid h4
    have HO := Lib.hid ho
    have HD := Lib.hid hd
    clear hm h4 ho hd
    by_cases h0 : 0 < j
    · have d0 : decide ((0 : Int) < (j : Int)) = true := by simp; omega
      have ew : IntKind.i64.wrap ((j : Int) - 1) = (j : Int) - 1 := by rw [IntKind.wrap_i64]; omega
      go_wp2_with (first
        | (go_at_call 14; refine (T1.out _ _ HD.out).mono ?_; rintro e w4 ⟨T, rfl, hT, hd4, hk4⟩; have HT := Lib.hid hT; have hs4 := hk4.1; have HO4 := Lib.hid (hk4.own HO.out (by omega)); have HD4 := Lib.hid hd4; clear hT hd4 hk4)
        | (at_builtin; refine wpList_append_lies _ rfl _ _ 34 rfl (g + 1) 9 i0 (.string ByteArray.empty) 1 16 Try.underlying34 hi hz0 hz1 hz2 rfl (by decide) _ _ _ rfl (World.ownsRow.alloc HO4.out _) ⟨w4.heap.size, 0, none⟩ 1 1 [.string T] rfl rfl (cell_text_new _ _ _) (by simp [Value.oneCell']) (by omega) (by unfold maxLen; omega) (by omega) (by simp; omega) _ rfl ?_; intro gq cap5 w5 hown5 hgrow5 hat5 hlt5; have HO5 := Lib.hid hown5; have HB5 := Lib.hid (grown_below hgrow5 (Below.refl (g + 1) w4) (by omega) (fun b hb => (World.ownsRow.lt HO4.out _ hb).1)); clear hown5 hgrow5 hat5)
        | fail)
      go_roundw
      case rel =>
        refine ⟨j - 1, m + 1, ts ++ [T], by rw [Int.ofNat_sub h0]; rfl, by rw [List.length_append, HM.out]; rfl, by omega, fun U hU => ?_, ?_, HD4.out.keep HB5.out, by have := HB5.out.size; omega⟩
        · rcases List.mem_append.1 hU with h | h
          · exact H4.out U h
          · rw [List.mem_singleton.1 h]; exact HT.out
        · rw [List.map_append]; exact HO5.out
      case measure => simp [intOf]; omega
    · obtain rfl : j = 0 := by omega
      have d0 : decide ((0 : Int) < ((0 : Nat) : Int)) = false := by simp
      obtain ⟨Al, cl, rfl⟩ := own_slice HO.out
      have hlin := LIn.own HO.out (Nat.lt_succ_self g)
      obtain ⟨B, hB⟩ : ∃ B, wr.heap.size = B := ⟨_, rfl⟩
      obtain ⟨wx, hwx⟩ : ∃ V, (wr.alloc (.cells #[.slice none 0 0] 25)).alloc (.cells #[.slice none 0 0] 25) = V := ⟨_, rfl⟩
      have hsx : wx.heap.size = B + 2 := by rw [← hwx]; simp [hB]
      have xa : wx.heap[B]? = some (.cells #[.slice none 0 0] 25 (0, 0)) := by
        rw [← hwx, ← hB]; exact (Below.heap_alloc _ _ _ (by simp)).trans (heap_alloc_new _ _)
      have xb : wx.heap[B + 1]? = some (.cells #[.slice none 0 0] 25 (0, 0)) := by
        have e : (wr.alloc (.cells #[.slice none 0 0] 25)).heap.size = B + 1 := by simp [hB]
        rw [← hwx, ← e]; exact heap_alloc_new _ _
      have hdx : DeckIn w A n c g wx := by rw [← hwx]; exact (HD.out.alloc _).alloc _
      have hlx : LIn wx g Al m cl ts := by rw [← hwx]; exact hlin.kept (KeptBut.alloc (KeptBut.alloc (KeptBut.refl _ _) _) _)
      have hgB : g < B := by omega
      have hBg : B ≠ g := by omega
      have hBg1 : B + 1 ≠ g := by omega
      have hwB : w.heap.size ≤ B := by omega
      have HWX := Lib.hid hwx
      have XA := Lib.hid xa
      have XB := Lib.hid xb
      have HDX := Lib.hid hdx
      have HLX := Lib.hid hlx
      clear hlin hwx xa xb hdx hlx
      go_wp2_with fail
      rw [HWX.out]
      clear hB
      go_wp2_with fail
      go_loopw [37] (fun i wr => ∃ (k n' c' : Nat) (A' : Option Addr) (lx : List Im.Rw), i = .int .i64 k ∧ k ≤ m ∧ Im.Arg wr A' n' c' lx ∧ Im.fine k lx ∧ Im.Adds [] ((ts.take k).map tl) lx ∧ DeckIn w A n c g wr ∧ LIn wr g Al m cl ts ∧ wr.heap[B]? = some (.cells #[.slice A' n' c'] 25 (0, 0)) ∧ wr.heap[B + 1]? = some (.cells #[.slice none 0 0] 25 (0, 0)) ∧ B + 2 ≤ wr.heap.size) (fun i _ => m - (intOf i).toNat)
      case atStart => exact ⟨0, 0, 0, none, [], rfl, by omega, .nil _, .nil _, rfl, HDX.out, HLX.out, XA.out, XB.out, by omega⟩
      case round =>
        obtain ⟨k, n'', c'', A'', lx, rfl, hk, har, hf, had, hd, hl, xa, xb, hsz⟩ := hrel
        obtain ⟨ca, fa⟩ := cell_frozen_one xa
        have XAR := Lib.hid xa
        have XBR := Lib.hid xb
        have HAR := Lib.hid har
        have HFX := Lib.hid hf
        have HAD := Lib.hid had
        have HDR := Lib.hid hd
        have HLR := Lib.hid hl
        clear xa xb har hf had hd hl
        by_cases hlt : k < m
        · have d8 : decide ((k : Int) < (m : Int)) = true := by simp; omega
          obtain ⟨b, hAb, hgb, hbl, hzk, hck⟩ := HLR.out.at hlt
          subst hAb
          obtain ⟨T, hT⟩ : ∃ T, ts[k] = T := ⟨_, rfl⟩
          rw [hT] at hck
          have hT4 : T.size ≤ 4 := by rw [← hT]; exact H4.out _ (List.getElem_mem hzk)
          have htl : (tl T).length ≤ 4 := by simpa [tl] using hT4
          have hfa := Im.fine_add HFX.out (by omega) (s := tl T) (by omega)
          have hfn := HFX.out.add (s := tl T) htl
          have htk : (ts.take (k + 1)).map tl = (ts.take k).map tl ++ [tl T] := by rw [← hT, ← List.take_append_getElem hzk, List.map_append]; rfl
          have hsn := fun h2 => Im.Adds.snoc (x := (Im.add lx (tl T)).1) HAD.out h2 rfl
          rw [← htk] at hsn
          have K1 := Lib.hid (KA.out A'' n'' c'' lx T wr HAR.out (by omega))
          obtain ⟨r, hr⟩ : ∃ r, Im.add lx (tl T) = r := ⟨_, rfl⟩
          rw [show Im.add lx T.data.toList = r from hr] at K1
          rw [hr] at hfa hfn hsn
          obtain ⟨l', fst, er⟩ := r
          simp only at hfa hfn hsn K1
          have HFN := Lib.hid hfn
          have HSN := Lib.hid hsn
          have j1 : (0 : Int) ≤ (k : Int) := by omega
          clear hr hfn hsn htk hT hT4 htl hzk
          rcases hfa with rfl | rfl
          · go_wp2_with (first
              | (go_at_call 22; (with_reducible refine K1.out.mono ?_); rintro e w4 ⟨v4, rfl, ho4, hb4⟩; obtain ⟨A4, c4, rfl, ha4⟩ := ho4.arg (by have := HFN.out.1; omega) (fun x hx => by have := (HFN.out.2.1 x hx).1; omega); obtain ⟨n4, hn4⟩ : ∃ b, l'.length = b := ⟨_, rfl⟩; rw [hn4] at ha4; rw [hn4]; clear hn4 ho4; have xa4 := (hb4.block B (by omega)).trans XAR.out; have xb4 := (hb4.block (B + 1) (by omega)).trans XBR.out; have hs4 := hb4.size; have xa5 := var_alloc xa4 (.cells #[.slice A4 n4 c4] 25); obtain ⟨ca5, fa5⟩ := cell_frozen_one xa5; have XA5 := Lib.hid xa5; have XB5 := Lib.hid (var_alloc xb4 (.cells #[.slice A4 n4 c4] 25)); have HA4 := Lib.hid ha4; have HD4 := Lib.hid (HDR.out.kept hb4).1; have HL4 := Lib.hid (HLR.out.below hb4); clear hb4 xa4 xb4 xa5 ha4)
              | fail)
            go_roundw
            case rel =>
              have hkp : KeptBut g w4 (w4.alloc (.cells #[.slice A4 n4 c4] 25)) := KeptBut.alloc (KeptBut.refl _ _) _
              (repeat apply Exists.intro)
              exact ⟨⟨k + 1, n4, c4, A4, l', by go_num, by omega, (HA4.out.below ((Below.refl _ _).alloc (Nat.le_refl _) _)).setVar XA5.out _, HFN.out, HSN.out (by trivial), (HD4.out.alloc _).setCell hBg hwB _, (HL4.out.kept hkp).setVar XA5.out _, one_set XA5.out, var_far XB5.out (by omega) _, by simp [World.setCell]; omega⟩, rfl⟩
            case measure => simp [intOf]; omega
          · go_wp2_with (first
              | (go_at_call 22; (with_reducible refine K1.out.mono ?_); rintro e w4 ⟨v4, rfl, ho4, hb4⟩; obtain ⟨A4, c4, rfl, ha4⟩ := ho4.arg (by have := HFN.out.1; omega) (fun x hx => by have := (HFN.out.2.1 x hx).1; omega); have HB4 := Lib.hid (HDR.out.kept hb4).1.1; clear ho4 hb4 ha4)
              | fail)
            go_ret
            exact ⟨rfl, HB4.out.alloc HB4.out.size _⟩
        · obtain rfl : k = m := by omega
          have d8 : decide ((k : Int) < (k : Int)) = false := by simp
          have had := HAD.out
          rw [List.take_of_length_le (by rw [HM.out]; exact Nat.le_refl _)] at had
          have HADX := Lib.hid had
          clear had
          go_wp2_with fail
          go_loopw [4] (fun s wr => ∃ (q c4 n' c' : Nat) (A4 A' : Option Addr) (rest : List ByteArray) (ly : List Im.Rw), s = .slice A4 q c4 ∧ q ≤ 8 ∧ (∀ T ∈ rest, T.size ≤ 4) ∧ LIn wr g A4 q c4 rest ∧ Im.Arg wr A' n' c' ly ∧ Im.fine (8 - q) ly ∧ Im.Adds ly (rest.map tl) lx ∧ DeckIn w A n c g wr ∧ Im.Arg wr A'' n'' c'' lx ∧ wr.heap[B]? = some (.cells #[.slice A'' n'' c''] 25 (0, 0)) ∧ wr.heap[B + 1]? = some (.cells #[.slice A' n' c'] 25 (0, 0)) ∧ B + 2 ≤ wr.heap.size) (fun s _ => sliceLen s)
          case atStart => exact ⟨k, cl, 0, 0, Al, none, ts, [], rfl, by omega, H4.out, HLR.out, .nil _, .nil _, HADX.out, HDR.out, HAR.out, XAR.out, XBR.out, hsz⟩
          case round =>
            obtain ⟨q, c4, n', c', A4, A', rest, ly, rfl, hq8, hr4, hl, hay, hfy, had, hd, hax, xa, xb, hsz⟩ := hrel
            have XA2 := Lib.hid xa
            have XB2 := Lib.hid xb
            have HR4 := Lib.hid hr4
            have HL2 := Lib.hid hl
            have HAY := Lib.hid hay
            have HFY := Lib.hid hfy
            have HAD2 := Lib.hid had
            have HD2' := Lib.hid hd
            have HAX := Lib.hid hax
            obtain ⟨ca2, fa2⟩ := cell_frozen_one xa
            obtain ⟨cb2, fb2⟩ := cell_frozen_one xb
            clear hr4 hl hay hfy had hd hax xa xb
            by_cases hq : 0 < q
            · have d9 : decide ((0 : Int) < (q : Int)) = true := by simp; omega
              clear ca2 fa2 cb2 fb2
              go_wp2_with (first
                | (go_at_call 15; refine (X1.out _ _ (q : Int) (by omega) (by omega) HD2'.out).mono ?_; rintro e w3 ⟨p, rfl, hp, hd3, hs3⟩; have hk3 := hs3.kept; have hss3 := hs3.1; have xa3 := (hs3.2 B hBg).trans XA2.out; have xb3 := (hs3.2 (B + 1) hBg1).trans XB2.out; have HL3 := Lib.hid (HL2.out.kept hk3); have HAY3 := Lib.hid (HAY.out.kept HD2'.out hk3); have HAX3 := Lib.hid (HAX.out.kept HD2'.out hk3); have HD3' := Lib.hid hd3; have XA3 := Lib.hid xa3; have XB3 := Lib.hid xb3; clear hd3 hs3 hk3 xa3)
                | fail)
              have hpq : p < q := by omega
              obtain ⟨b, hAb, hgb, hbl, hzp, hcp⟩ := HL3.out.at hpq
              have hrl := HL3.out.1
              have hqc := HL3.out.2.1
              subst hAb
              obtain ⟨T, hT⟩ : ∃ T, rest[p] = T := ⟨_, rfl⟩
              rw [hT] at hcp
              have hT4 : T.size ≤ 4 := by rw [← hT]; exact HR4.out _ (List.getElem_mem hzp)
              have htl : (tl T).length ≤ 4 := by simpa [tl] using hT4
              have hfst := Im.Adds.first HAD2.out p (by rw [List.length_map]; exact hzp)
              rw [show (rest.map tl)[p]'(by rw [List.length_map]; exact hzp) = tl T by simp [hT]] at hfst
              have hfn := HFY.out.add (s := tl T) htl
              rw [show 8 - q + 1 = 8 - (q - 1) by omega] at hfn
              have K1 := Lib.hid (fun V h => KA.out A' n' c' ly T V h (by omega))
              obtain ⟨r, hr⟩ : ∃ r, Im.add ly (tl T) = r := ⟨_, rfl⟩
              rw [show Im.add ly T.data.toList = r from hr] at K1
              rw [hr] at hfst hfn
              obtain ⟨ly', fst, er⟩ := r
              simp only at hfst hfn K1
              obtain ⟨rfl, had3⟩ := hfst
              have hem : (rest.map tl).eraseIdx p = (rest.eraseIdx p).map tl := by
                rw [List.eraseIdx_eq_take_drop_succ, List.eraseIdx_eq_take_drop_succ, List.map_append, List.map_take, List.map_drop]
              rw [hem] at had3
              have HFN := Lib.hid hfn
              have HAD3 := Lib.hid had3
              have HRR := Lib.hid (show ∀ U ∈ rest.eraseIdx p, U.size ≤ 4 from fun U hU => HR4.out U (List.mem_of_mem_eraseIdx hU))
              obtain ⟨zb, hzb⟩ : ∃ b, w3.heap.size = b := ⟨_, rfl⟩
              have hzB : B + 2 ≤ zb := by omega
              rw [hzb] at hbl
              clear hss3
              have HZ := Lib.hid (show (w3.alloc (.cells #[.slice none 0 0] 25)).heap[zb]? = some (.cells #[.slice none 0 0] 25 (0, 0)) from by rw [← hzb]; exact heap_alloc_new _ _)
              have HY2 := Lib.hid (var_alloc xb3 (.cells #[.slice none 0 0] 25))
              obtain ⟨cy3, fy3⟩ := cell_frozen_one xb3
              have j1 : (0 : Int) ≤ (p : Int) := by omega
              have j2 : (p : Int) < (q : Int) := by omega
              have HCP := Lib.hid hcp
              clear hr hfn had3 hem hT hT4 htl hzp xb3
              go_region_held3 (fun V => V.cell? ⟨B + 1, 0, none⟩ = some (.slice A' n' c') ∧ V.cell? ⟨b, p, none⟩ = some (.string T)) (first | exact HQ.out | go_keep) ((first
                | (go_at_call 22; refine (K1.out _ (HAY3.out.below (Below.refl _ _).drew)).mono ?_; rintro e w5 ⟨v5, rfl, ho5, hb5⟩; obtain ⟨A5, c5, rfl, ha5⟩ := ho5.arg (by have := HFN.out.1; omega) (fun x hx => by have := (HFN.out.2.1 x hx).1; omega); obtain ⟨n5, hn5⟩ : ∃ b, ly'.length = b := ⟨_, rfl⟩; rw [hn5] at ha5; rw [hn5]; clear hn5 ho5; have hby := (hb5.block (B + 1) (show B + 1 < w3.heap.size by omega)).trans XB3.out; obtain ⟨cy5, fy5⟩ := cell_frozen_one hby; have cp5 := (hb5.cell (p := ⟨b, p, none⟩) (show b < w3.heap.size by omega)).trans HCP.out; have HA5 := Lib.hid ha5; have HB5 := Lib.hid (show Below w3.heap.size w3 w5 from (Below.refl _ _).drew.trans hb5); clear hb5 ha5 hby)
                | (go_at_call 22; refine (K1.out _ (HAY3.out.below ((Below.refl _ _).alloc (Nat.le_refl _) _).drew)).mono ?_; rintro e w5 ⟨v5, rfl, ho5, hb5⟩; obtain ⟨A5, c5, rfl, ha5⟩ := ho5.arg (by have := HFN.out.1; omega) (fun x hx => by have := (HFN.out.2.1 x hx).1; omega); obtain ⟨n5, hn5⟩ : ∃ b, ly'.length = b := ⟨_, rfl⟩; rw [hn5] at ha5; rw [hn5]; clear hn5 ho5; have hby := (hb5.block (B + 1) (show B + 1 < (w3.alloc _).heap.size by simp; omega)).trans HY2.out; have hbz := (hb5.block zb (show zb < (w3.alloc _).heap.size by simp; omega)).trans HZ.out; obtain ⟨cy5, fy5⟩ := cell_frozen_one hby; obtain ⟨cz5, fz5⟩ := cell_frozen_one hbz; have cp5 := (hb5.cell (p := ⟨b, p, none⟩) (show b < (w3.alloc _).heap.size by simp; omega)).trans ((World.cell?_alloc_lt w3 _ ⟨b, p, none⟩ (show b < w3.heap.size by omega)).trans HCP.out); have HQ := Lib.hid (show (w5.setCell ⟨zb, 0, none⟩ (.slice A5 n5 c5)).cell? ⟨B + 1, 0, none⟩ = some (.slice A' n' c') ∧ (w5.setCell ⟨zb, 0, none⟩ (.slice A5 n5 c5)).cell? ⟨b, p, none⟩ = some (.string T) from ⟨(World.cell?_setCell_other w5 ⟨zb, 0, none⟩ ⟨B + 1, 0, none⟩ _ (fun e => absurd (congrArg Addr.block e) (show ¬ _ = _ by dsimp only; omega))).trans cy5, (World.cell?_setCell_other w5 ⟨zb, 0, none⟩ ⟨b, p, none⟩ _ (fun e => absurd (congrArg Addr.block e) (show ¬ _ = _ by dsimp only; omega))).trans cp5⟩); have HBZ := Lib.hid hbz; have HA5 := Lib.hid ha5; have HB5 := Lib.hid (show Below w3.heap.size w3 w5 from ((Below.refl _ _).alloc (Nat.le_refl _) _).drew.trans (hb5.mono (show w3.heap.size ≤ (w3.alloc _).heap.size by simp))); clear hb5 ha5 hby hbz)
                | fail))
              all_goals (
                clear cy5 fy5 cp5
                first
                | (clear cz5 fz5 HQ; obtain ⟨zz, hzz⟩ : ∃ b, zb = b := ⟨_, rfl⟩
                   obtain ⟨w6, hw6⟩ : ∃ V, w5.setCell ⟨zb, 0, none⟩ (.slice A5 n5 c5) = V := ⟨_, rfl⟩
                   have hz6 : w6.heap[zz]? = some (.cells #[.slice A5 n5 c5] 25 (0, 0)) := by rw [← hw6, ← hzz]; exact one_set HBZ.out
                   have hb6 : Below w3.heap.size w3 w6 := by rw [← hw6]; exact HB5.out.setCell (show w3.heap.size ≤ zb by omega) _
                   have ha6 : Im.Arg w6 A5 n5 c5 ly' := by rw [← hw6]; exact HA5.out.setVar HBZ.out _
                   rw [hw6, hzz]
                   clear hw6)
                | (obtain ⟨zz, hzz⟩ : ∃ b, w5.heap.size = b := ⟨_, rfl⟩
                   obtain ⟨w6, hw6⟩ : ∃ V, w5.alloc (.cells #[.slice A5 n5 c5] 25) = V := ⟨_, rfl⟩
                   have hz6 : w6.heap[zz]? = some (.cells #[.slice A5 n5 c5] 25 (0, 0)) := by rw [← hw6, ← hzz]; exact heap_alloc_new _ _
                   have hb6 : Below w3.heap.size w3 w6 := by rw [← hw6]; exact HB5.out.alloc HB5.out.size _
                   have ha6 : Im.Arg w6 A5 n5 c5 ly' := by rw [← hw6]; exact HA5.out.below ((Below.refl _ _).alloc (Nat.le_refl _) _)
                   rw [hw6, hzz]
                   clear hw6)
                have hs6 := hb6.size
                have hy6 := (hb6.block (B + 1) (by omega)).trans XB3.out
                have hx6 := (hb6.block B (by omega)).trans XA3.out
                obtain ⟨cy6, fy6⟩ := cell_frozen_one hy6
                obtain ⟨cz6, fz6⟩ := cell_frozen_one hz6
                obtain ⟨w7, hw7⟩ : ∃ V, w6.setCell ⟨B + 1, 0, none⟩ (.slice A5 n5 c5) = V := ⟨_, rfl⟩
                have HW7 := Lib.hid hw7
                have HL7 := Lib.hid (show LIn w7 g (some ⟨b, 0, none⟩) q c4 rest from by rw [← hw7]; exact (HL3.out.below hb6).setVar hy6 _)
                have HD7 := Lib.hid (show DeckIn w A n c g w7 from by rw [← hw7]; exact (HD3'.out.kept hb6).1.setCell hBg1 (by show w.heap.size ≤ B + 1; omega) _)
                have HAX7 := Lib.hid (show Im.Arg w7 A'' n'' c'' lx from by rw [← hw7]; exact (HAX3.out.below hb6).setVar hy6 _)
                have HAY7 := Lib.hid (show Im.Arg w7 A5 n5 c5 ly' from by rw [← hw7]; exact ha6.setVar hy6 _)
                have HX7 := Lib.hid (show w7.heap[B]? = some (.cells #[.slice A'' n'' c''] 25 (0, 0)) from by rw [← hw7]; exact var_far hx6 (by omega) _)
                have HY7 := Lib.hid (show w7.heap[B + 1]? = some (.cells #[.slice A5 n5 c5] 25 (0, 0)) from by rw [← hw7]; exact one_set hy6)
                have hs7 : B + 2 ≤ w7.heap.size := by rw [← hw7]; simp [World.setCell]; omega
                have ew : IntKind.i64.wrap ((p : Int) + 1) = (p : Int) + 1 := by rw [IntKind.wrap_i64]; omega
                have t1 : ((p : Int) + 1).toNat = p + 1 := by omega
                have k1 : (0 : Int) ≤ (p : Int) + 1 := by omega
                have k2 : (p : Int) + 1 ≤ (q : Int) := by omega
                have k3 : (p : Int) ≤ (c4 : Int) := by omega
                clear hzz hb6 ha6 hy6 hx6 hz6 hw7 hs6
                go_wp2_with fail
                rw [HW7.out]
                by_cases hpe : p + 1 < q
                · obtain ⟨A8, c8, w8, hrun8, hb8, hl8⟩ := run_without (w := w7.drew) (g := g) (k := p) (n := q) (c := c4) (ts := rest) HL7.out hpe (by omega) b rfl 34 (c4 - (p + 1))
                  have n1 : ¬ c4 = p + 1 := by omega
                  have HR8 := Lib.hid hrun8
                  have HB8 := Lib.hid (show Below w7.heap.size w7 w8 from (Below.refl _ w7).drew.trans hb8)
                  have HL8 := Lib.hid (hl8 (by show g < w7.heap.size; omega))
                  clear hrun8 hb8 hl8 cy6 fy6 cz6 fz6
                  go_region_law (refine step_append_known rfl (.tmp 77) (.tmp 81) 34 rfl _ _ _ w8 (by simp [Act.eval, Act.put]) (by simp [Act.eval, Act.put]) HR8.out ?_)
                  go_wp2_with fail
                  go_roundw
                  case rel =>
                    have hdk := HD7.out.kept HB8.out
                    (repeat apply Exists.intro)
                    exact ⟨⟨q - 1, c8, n5, c5, A8, A5, rest.eraseIdx p, ly', rfl, by omega, HRR.out, HL8.out, HAY7.out.below HB8.out, HFN.out, HAD3.out, hdk.1, HAX7.out.below HB8.out, (HB8.out.block B (by omega)).trans HX7.out, (HB8.out.block (B + 1) (by omega)).trans HY7.out, by have := HB8.out.size; omega⟩, rfl⟩
                  case measure => (show q - 1 < q; omega)
                · obtain rfl : q = p + 1 := by omega
                  have HL8 := Lib.hid (show LIn w7.drew g (some ⟨b, 0, none⟩) p p (rest.eraseIdx p) from (show LIn w7.drew g (some ⟨b, 0, none⟩) (p + 1) c4 rest from HL7.out).init)
                  have n0 : p + 1 - (p + 1) = 0 := by omega
                  clear cy6 fy6 cz6 fz6
                  by_cases hcq : c4 = p + 1
                  · subst hcq
                    have k3 : (p : Int) ≤ (p : Int) + 1 := by omega
                    have k4 : ¬ p + 1 = p := by omega
                    go_region_law (refine step_append_none rfl (.tmp 77) (.tmp 81) 34 rfl 9 i0 Try.underlying34 hi b 0 p p (by simp [Act.eval, Act.put]) (Nat.le_refl _) ⟨b, 0, none⟩ 0 (by simp [Act.eval, Act.put]) ?_)
                    go_wp2_with fail
                    go_roundw
                    case rel =>
                      (repeat apply Exists.intro)
                      exact ⟨⟨p, p, n5, c5, some ⟨b, 0, none⟩, A5, rest.eraseIdx p, ly', rfl, by omega, HRR.out, HL8.out, HAY7.out, HFN.out, HAD3.out, HD7.out.drew, HAX7.out, HX7.out, HY7.out, hs7⟩, rfl⟩
                    case measure => (show p < p + 1; omega)
                  · go_region_law (refine step_append_none rfl (.tmp 77) (.tmp 81) 34 rfl 9 i0 Try.underlying34 hi b 0 p p (by simp [Act.eval, Act.put]) (Nat.le_refl _) ⟨b, p + 1, none⟩ (c4 - (p + 1)) (by simp [Act.eval, Act.put]) ?_)
                    go_wp2_with fail
                    go_roundw
                    case rel =>
                      (repeat apply Exists.intro)
                      exact ⟨⟨p, p, n5, c5, some ⟨b, 0, none⟩, A5, rest.eraseIdx p, ly', rfl, by omega, HRR.out, HL8.out, HAY7.out, HFN.out, HAD3.out, HD7.out.drew, HAX7.out, HX7.out, HY7.out, hs7⟩, rfl⟩
                    case measure => (show p < p + 1; omega))
            · obtain rfl : q = 0 := by omega
              have d9 : decide ((0 : Int) < ((0 : Nat) : Int)) = false := by simp
              have hr0 : rest = [] := List.eq_nil_of_length_eq_zero HL2.out.1
              have hxy : ly = lx := by have h := HAD2.out; rw [hr0] at h; exact h
              have HXY := Lib.hid hxy
              clear hr0 hxy
              go_wp2_with (first | (go_at_call 20; (with_reducible refine (KM.out _ _ _ _ _ _ _ _ _ HAX.out HAY.out).mono ?_); rintro e w8 ⟨rfl, hb8⟩; have HB8 := Lib.hid (HD2'.out.1.trans (hb8.mono HD2'.out.1.size)); have hdd : decide (lx = ly) = true := (by rw [HXY.out]; simp); clear hb8) | fail)
              go_ret
              exact ⟨by first | rfl | rw [hdd], HB8.out⟩

end Go.Proofs.Ytmdakplaaehmnaa
