/-
  RefsDoes: the loop over the three indexes.
-/
import Derived.Test.YtmdakplaaehmnaaLawIO
import Derived.Test.YtmdakplaaehmnaaLawIW
import Derived.Test.YtmdakplaaehmnaaLawIJ
import Derived.Deep.RegionHeldLaw
namespace Go.Proofs.Ytmdakplaaehmnaa
open Go.RowKit
set_option maxHeartbeats 16000000

def firstLoop : Code → Option Code
  | .loop c => some c
  | .seq a b => match firstLoop a with
    | some c => some c
    | none => firstLoop b
  | .block _ c => firstLoop c
  | .scope c => firstLoop c
  | .cond _ a b => match firstLoop a with
    | some c => some c
    | none => firstLoop b
  | _ => none
noncomputable def doesBody : Code := ((Try.f3.body.bind firstLoop).getD .skip)
noncomputable def doesTail : Code := ((Code.region 40 #[{ dst := some 10, op := Op.assign (Operand.const (Value.bool true)), type := 4, pos := "law.go:71", after := #[], guard := none }] false).seq Code.ret)
abbrev doesPost (w : World) : Exit → Act → World → Prop := bodyPost Try.prog Try.f3 fun e w' => e = Ending.returned (.bool true) ∧ Below w.heap.size w w'

set_option maxRecDepth 100000 in
theorem refsDoes_main (H' : DoesSays) (w W0 : World) (X L bd bt nd nt cd cs : Nat) (A1 Ax A6 : Option Addr) (n1 c1 nx cx n6 c6 : Nat) (l1 lx lb : List Im.Rw) (ds : List Int) (ts : List ByteArray)
    (hlit : W0.heap[L]? = some (.cells #[.slice A1 n1 c1, .slice Ax nx cx, .slice A6 n6 c6] 25 (0, 0)))
    (hxv : W0.heap[X]? = some (.cells #[.slice Ax nx cx] 25 (0, 0)))
    (hB0 : Below w.heap.size w W0) (hwr : Im.Wide W0 A1 n1 c1 l1) (hwx : Im.Wide W0 Ax nx cx lx) (hwb : Im.Wide W0 A6 n6 c6 lb)
    (hdl : ds.length = nd) (htl : ts.length = nt) (_hnd : nd ≤ 3) (_hnt : nt ≤ 3)
    (hdc : ∀ i (h : i < ds.length), W0.cell? ⟨bd, i, none⟩ = some (.int .i64 ds[i]))
    (htc : ∀ i (h : i < ts.length), W0.cell? ⟨bt, i, none⟩ = some (.string ts[i]))
    (htz : ∀ x ∈ ts, x.size ≤ 100000)
    (hLW : L < W0.heap.size) (hbdW : bd < W0.heap.size) (hbtW : bt < W0.heap.size) (hXW : X < W0.heap.size)
    (K : Act → World → Prop) (hK : ∀ a v, Code.wp Try.prog doesTail (doesPost w) a v → K a v)
    (v0 v1 v2 v3 v4 v5 v6 v7 v8 v9 v10 v11 v13 v16 v17 v18 v19 v20 v21 v22 v23 v24 v25 v26 v27 v28 v29 v30 v31 v32 v33 v34 v35 v36 v37 v38 v39 v40 v41 v42 v43 v44 v45 v46 v47 v48 v49 v50 v51 v52 v53 v54 v55 v56 v57 v58 v59 v60 v61 v62 v63 v64 v65 v66 v67 v68 v69 v70 v71 v72 v73 v74 v75 v76 v77 v78 v79 v80 v81 v82 v83 v84 v85 v86 v87 v88 v89 v90 v91 v92 v93 v94 v95 v96 v97 v98 v99 v100 v101 v102 v103 v104 v105 v106 v107 v108 v109 v110 v111 v112 v113 : Value) :
    Code.wp Try.prog (Code.loop doesBody) (Exit.inBlock 0 (Exit.then K (doesPost w))) ⟨List.toArray (v0 :: v1 :: v2 :: v3 :: v4 :: v5 :: v6 :: v7 :: v8 :: v9 :: v10 :: v11 :: .pointer (some ⟨X, 0, none⟩) :: v13 :: .slice (some ⟨bd, 0, none⟩) nd cd :: .slice (some ⟨bt, 0, none⟩) nt cs :: v16 :: v17 :: v18 :: v19 :: v20 :: v21 :: v22 :: v23 :: v24 :: v25 :: v26 :: v27 :: v28 :: v29 :: v30 :: v31 :: v32 :: v33 :: v34 :: v35 :: v36 :: v37 :: v38 :: v39 :: v40 :: v41 :: v42 :: v43 :: v44 :: v45 :: v46 :: v47 :: v48 :: v49 :: v50 :: v51 :: v52 :: v53 :: v54 :: v55 :: v56 :: v57 :: v58 :: v59 :: v60 :: v61 :: v62 :: v63 :: v64 :: v65 :: v66 :: v67 :: v68 :: v69 :: v70 :: v71 :: v72 :: v73 :: v74 :: v75 :: v76 :: v77 :: v78 :: v79 :: v80 :: v81 :: v82 :: v83 :: v84 :: v85 :: v86 :: v87 :: v88 :: v89 :: v90 :: v91 :: v92 :: v93 :: v94 :: v95 :: v96 :: v97 :: v98 :: v99 :: v100 :: v101 :: v102 :: v103 :: v104 :: v105 :: v106 :: v107 :: v108 :: v109 :: v110 :: v111 :: v112 :: v113 :: .slice (some ⟨L, 0, none⟩) 3 3 :: .int .i64 3 :: .int .i64 0 :: undef :: undef :: undef :: undef :: undef :: undef :: undef :: undef :: undef :: undef :: undef :: undef :: undef :: undef :: undef :: undef :: undef :: undef :: undef :: undef :: undef :: undef :: undef :: undef :: undef :: undef :: undef :: undef :: undef :: undef :: undef :: undef :: undef :: undef :: undef :: undef :: undef :: undef :: undef :: undef :: undef :: undef :: undef :: undef :: undef :: undef :: undef :: undef :: undef :: undef :: undef :: undef :: undef :: undef :: undef :: undef :: undef :: undef :: undef :: undef :: undef :: undef :: undef :: undef :: undef :: undef :: undef :: undef :: undef :: undef :: undef :: undef :: undef :: undef :: undef :: undef :: undef :: undef :: undef :: undef :: undef :: undef :: undef :: undef :: undef :: undef :: undef :: undef :: undef :: undef :: undef :: undef :: undef :: undef :: undef :: undef :: undef :: undef :: undef :: undef :: undef :: undef :: undef :: undef :: undef :: undef :: undef :: undef :: undef :: undef :: undef :: undef :: undef :: undef :: undef :: undef :: undef :: undef :: undef :: undef :: undef :: undef :: undef :: undef :: undef :: undef :: undef :: undef :: undef :: undef :: undef :: undef :: undef :: undef :: undef :: undef :: undef :: undef :: undef :: undef :: undef :: undef :: undef :: undef :: []), []⟩ W0 := by
  have HC := Lib.hid H'
  have HLIT := Lib.hid hlit
  have HXV := Lib.hid hxv
  have HB0 := Lib.hid hB0
  have HWR := Lib.hid hwr
  have HWX := Lib.hid hwx
  have HLB := Lib.hid hwb
  have HDC := Lib.hid hdc
  have HTC := Lib.hid htc
  have HTZ := Lib.hid htz
  clear H' hlit hxv hB0 hwr hwx hwb hdc htc htz
  unfold doesTail at hK
  conv => arg 2; arg 1; whnf
  go_loopw [116] (fun i wr => ∃ k : Nat, i = .int .i64 k ∧ k ≤ 3 ∧ Below W0.heap.size W0 wr) (fun i _ => 3 - (intOf i).toNat)
  case atStart => exact ⟨0, rfl, by omega, Below.refl _ _⟩
  case round =>
    obtain ⟨k, rfl, hk, hbr⟩ := hrel
    have HBR := Lib.hid hbr
    have hsr := hbr.size
    by_cases hlt : k < 3
    · have d8 : decide ((k : Int) < 3) = true := by simp; omega
      obtain ⟨Ay, ny, cy, ly, hcy, hwy⟩ : ∃ (Ay : Option Addr) (ny cy : Nat) (ly : List Im.Rw), W0.cell? ⟨L, k, none⟩ = some (.slice Ay ny cy) ∧ Im.Wide W0 Ay ny cy ly := by
        have hh := HLIT.out
        rcases (show k = 0 ∨ k = 1 ∨ k = 2 by omega) with rfl | rfl | rfl
        · exact ⟨A1, n1, c1, l1, by simp [World.cell?, hh], HWR.out⟩
        · exact ⟨Ax, nx, cx, lx, by simp [World.cell?, hh], HWX.out⟩
        · exact ⟨A6, n6, c6, lb, by simp [World.cell?, hh], HLB.out⟩
      have hcr := (hbr.cell (p := ⟨L, k, none⟩) (by show L < _; omega)).trans hcy
      obtain ⟨Y, hY⟩ : ∃ q, wr.heap.size = q := ⟨_, rfl⟩
      obtain ⟨W1, hW1⟩ : ∃ V, wr.alloc (.cells #[.slice Ay ny cy] 25) = V := ⟨_, rfl⟩
      have hy1 : W1.heap[Y]? = some (.cells #[.slice Ay ny cy] 25 (0, 0)) := by rw [← hW1, ← hY]; exact heap_alloc_new _ _
      have hb1' : Below W0.heap.size W0 W1 := by rw [← hW1]; exact hbr.alloc (by omega) _
      have hs1' : W1.heap.size = Y + 1 := by rw [← hW1]; simp [hY]
      have hx1' := (hb1'.block X (by omega)).trans HXV.out
      have HWY := Lib.hid (hwy.below hb1')
      have HWX1 := Lib.hid (HWX.out.below hb1')
      have HY1 := Lib.hid hy1
      have HX1' := Lib.hid hx1'
      have HB1' := Lib.hid hb1'
      have HW1' := Lib.hid hW1
      have hXY : X < Y := by omega
      have hYW : W0.heap.size ≤ Y := by omega
      obtain ⟨cy1, fy1⟩ := cell_frozen_one hy1
      obtain ⟨t1, ht1⟩ : ∃ q, (Im.tot ly).1 = q := ⟨_, rfl⟩
      obtain ⟨t2, ht2⟩ : ∃ q, (Im.tot ly).2.1 = q := ⟨_, rfl⟩
      obtain ⟨t3, ht3⟩ : ∃ q, (Im.tot ly).2.2 = q := ⟨_, rfl⟩
      obtain ⟨c0, hc0⟩ : ∃ q, Im.chk ly = q := ⟨_, rfl⟩
      obtain ⟨sb, hsb⟩ : ∃ q, decide (ly = lx) = q := ⟨_, rfl⟩
      have P1 := Lib.hid (fun V h => HC.out.ptot Ay ny cy ly V h)
      have P2 := Lib.hid (fun V h => HC.out.rtot Ay ny cy ly V h)
      have P3 := Lib.hid (fun V h => HC.out.pchk Ay ny cy ly V h)
      have P4 := Lib.hid (fun V h => HC.out.rchk Ay ny cy ly V h)
      have P5 := Lib.hid (fun V h h' => HC.out.psame Ay Ax ny nx cy cx ly lx V h h')
      have P6 := Lib.hid (fun V h h' => HC.out.rsame Ay Ax ny nx cy cx ly lx V h h')
      rw [ht1, ht2, ht3] at P1 P2
      rw [hc0] at P3 P4
      rw [hsb] at P5 P6
      have q1 : (t1 != t1) = false := by simp
      have q2 : (t2 != t2) = false := by simp
      have q3 : (t3 != t3) = false := by simp
      have q4 : (c0 != c0) = false := by simp
      have q5 : (sb != sb) = false := by simp
      have j1 : (0 : Int) ≤ (k : Int) := by omega
      clear hbr hcy hwy hy1 hb1' hx1' hW1 ht1 ht2 ht3 hc0 hsb
      go_wp2_with fail
      rw [HW1'.out]
      clear hY
      go_wp2_with (first
        | (go_at_call 16; (with_reducible refine (P1.out _ HWY.out).mono ?_); rintro e w2 ⟨rfl, hb2⟩; have hs2 := hb2.size; have hy2 := (hb2.block Y (by omega)).trans HY1.out; obtain ⟨cy2, fy2⟩ := cell_frozen_one hy2; have HB2' := Lib.hid (HB1'.out.trans (hb2.mono (by omega))); have HWY2 := Lib.hid (HWY.out.below hb2); have HWX2 := Lib.hid (HWX1.out.below hb2); have HY2 := Lib.hid hy2; have HX2 := Lib.hid ((hb2.block X (by omega)).trans HX1'.out); clear hb2 hy2)
        | (go_at_call 17; (with_reducible refine (P2.out _ HWY2.out).mono ?_); rintro e w3 ⟨rfl, hb3⟩; have hs3 := hb3.size; have hy3 := (hb3.block Y (by omega)).trans HY2.out; have HB3' := Lib.hid (HB2'.out.trans (hb3.mono (by omega))); have HWY3 := Lib.hid (HWY2.out.below hb3); have HWX3 := Lib.hid (HWX2.out.below hb3); have HY3 := Lib.hid hy3; have HX3' := Lib.hid ((hb3.block X (by omega)).trans HX2.out); clear hb3 hy3)
        | fail)
      have fr : ∀ y : Ext w3.heap.size w3, y.1.cell? ⟨Y, 0, none⟩ = some (.slice Ay ny cy) ∧ y.1.cell? ⟨X, 0, none⟩ = some (.slice Ax nx cx) := fun y => by
        have h1 := (y.2.block Y (by omega)).trans HY3.out
        have h2 := (y.2.block X (by omega)).trans HX3'.out
        refine ⟨?_, ?_⟩ <;> simp [World.cell?, h1, h2]
      have g0 := fun y => (fr y).1
      have g1 := fun y => (fr y).2
      clear fr cy1 fy1 cy2 fy2
      refine wp_region_below w3.heap.size (by kernel_rfl) (by kernel_rfl) ?_
      repeat (go_big_quiet_step ((first | (go_at_call 18; exact Calls.ext_of _ (Nat.le_refl _) (P3.out _ (HWY3.out.below (Subtype.property _)))) | (go_at_call 19; exact Calls.ext_of _ (Nat.le_refl _) (P4.out _ (HWY3.out.below (Subtype.property _)))) | (go_at_call 20; exact Calls.ext_of _ (Nat.le_refl _) (P5.out _ (HWY3.out.below (Subtype.property _)) (HWX3.out.below (Subtype.property _)))) | (go_at_call 21; exact Calls.ext_of _ (Nat.le_refl _) (P6.out _ (HWY3.out.below (Subtype.property _)) (HWX3.out.below (Subtype.property _)))))))
      refine wpQuiet_nil ?_
      intro w4 hB4
      have hs4 := hB4.size
      have HB4' := Lib.hid (HB3'.out.trans (hB4.mono (by omega)))
      have HWY4 := Lib.hid (HWY3.out.below hB4)
      have HY4 := Lib.hid ((hB4.block Y (by omega)).trans HY3.out)
      clear hB4 g0 g1
      go_wp2_with fail
      go_loopw [163] (fun i wq => ∃ q : Nat, i = .int .i64 q ∧ q ≤ nt ∧ Below w4.heap.size w4 wq) (fun i _ => nt - (intOf i).toNat)
      case atStart => exact ⟨0, rfl, by omega, Below.refl _ _⟩
      case round =>
        obtain ⟨q, rfl, hq, hbq⟩ := hrel
        have hsq := hbq.size
        have HBQ := Lib.hid hbq
        by_cases hlq : q < nt
        · have d9 : decide ((q : Int) < (nt : Int)) = true := by simp; omega
          obtain ⟨s2, hs2'⟩ : ∃ x, ts[q]'(by omega) = x := ⟨_, rfl⟩
          have hcs := (hbq.cell (p := ⟨bt, q, none⟩) (by show bt < _; omega)).trans ((HB4'.out.cell (p := ⟨bt, q, none⟩) hbtW).trans (HTC.out q (by omega)))
          rw [hs2'] at hcs
          have hz2' : s2.size ≤ 100000 := by rw [← hs2']; exact HTZ.out _ (List.getElem_mem _)
          have hyq := (hbq.block Y (by omega)).trans HY4.out
          obtain ⟨cyq, fyq⟩ := cell_frozen_one hyq
          have HWQ := Lib.hid (HWY4.out.below hbq)
          obtain ⟨r, hr⟩ : ∃ r, Im.add ly s2.data.toList = r := ⟨_, rfl⟩
          have K1 := Lib.hid (fun V h => HC.out.padd Ay ny cy ly s2 V h hz2')
          have K2 := Lib.hid (fun V h => HC.out.radd Ay ny cy ly s2 V h hz2')
          rw [hr] at K1 K2
          obtain ⟨l', fst, er⟩ := r
          simp only at K1 K2
          have p1 : (fst != fst) = false := by simp
          have p2 : (er != er) = false := by simp
          have hdd : decide (l' = l') = true := by simp
          have K3 := Lib.hid (fun Aa na ca Ab nb cb V h h' => HC.out.rsame Aa Ab na nb ca cb l' l' V h h')
          rw [hdd] at K3
          have HYQ := Lib.hid hyq
          have j3 : (0 : Int) ≤ (q : Int) := by omega
          clear hr hs2' hz2' hyq hbq hdd
          go_wp2_with (first
            | (go_at_call 22; (with_reducible refine (K1.out _ HWQ.out).mono ?_); rintro e w5 ⟨A5, n5, c5, rfl, hw5, hb5⟩; have hs5 := hb5.size; have hy5 := var_alloc ((hb5.block Y (by omega)).trans HYQ.out) (.cells #[.slice A5 n5 c5] 25); obtain ⟨cy5, fy5⟩ := cell_frozen_one hy5; have HY5 := Lib.hid hy5; have HA5 := Lib.hid (hw5.below ((Below.refl _ _).alloc (Nat.le_refl _) (.cells #[.slice A5 n5 c5] 25))); have HWQ5 := Lib.hid ((HWQ.out.below hb5).below ((Below.refl _ _).alloc (Nat.le_refl _) (.cells #[.slice A5 n5 c5] 25))); have HB5 := Lib.hid ((HBQ.out.trans (hb5.mono hsq)).alloc (by omega) (.cells #[.slice A5 n5 c5] 25)); have HV5 := Lib.hid (heap_alloc_new w5 (.cells #[.slice A5 n5 c5] 25)); have he5 : (w5.alloc (.cells #[.slice A5 n5 c5] 25)).heap.size = w5.heap.size + 1 := (by simp); have HE5 := Lib.hid he5; clear hw5 hb5 hy5 he5)
            | (go_at_call 23; (with_reducible refine (K2.out _ HWQ5.out).mono ?_); rintro e w6 ⟨A6', n6, c6', rfl, hw6, hb6⟩; have hs6' := hb6.size; have hv6 := var_alloc ((hb6.block w5.heap.size (by rw [HE5.out]; omega)).trans HV5.out) (.cells #[.slice A6' n6 c6'] 25); obtain ⟨cv6, fv6⟩ := cell_frozen_one hv6; have HA6 := Lib.hid ((HA5.out.below hb6).below ((Below.refl _ _).alloc (Nat.le_refl _) (.cells #[.slice A6' n6 c6'] 25))); have HB6' := Lib.hid (hw6.below ((Below.refl _ _).alloc (Nat.le_refl _) (.cells #[.slice A6' n6 c6'] 25))); have HB7 := Lib.hid ((HB5.out.trans (hb6.mono HB5.out.size)).alloc (Nat.le_trans HB5.out.size hs6') (.cells #[.slice A6' n6 c6'] 25)); clear hw6 hb6 hv6 hs6')
            | (go_at_call 21; (with_reducible refine (K3.out _ _ _ _ _ _ _ HA6.out HB6'.out).mono ?_); rintro e w7 ⟨rfl, hb7⟩; have HB8 := Lib.hid (HB7.out.trans (hb7.mono HB7.out.size)); clear hb7)
            | fail)
          go_roundw
          case rel =>
            first
            | exact ⟨q + 1, by go_num, by omega, HB8.out⟩
            | ((repeat apply Exists.intro); exact ⟨⟨q + 1, by go_num, by omega, HB8.out⟩, rfl⟩)
          case measure => simp [intOf]; omega
        · obtain rfl : nt = q := by omega
          have d9 : decide ((nt : Int) < (nt : Int)) = false := by simp
          have HWY8 := Lib.hid (HWY4.out.below hbq)
          have HY8 := Lib.hid ((hbq.block Y (by omega)).trans HY4.out)
          have HB8 := Lib.hid (HB4'.out.trans (hbq.mono (by omega)))
          have hsw8 : Y < wr.heap.size := by omega
          clear hbq hlq
          go_wp2_with fail
          go_loopw [198] (fun i wq => ∃ q : Nat, i = .int .i64 q ∧ q ≤ nd ∧ Below wr.heap.size wr wq) (fun i _ => nd - (intOf i).toNat)
          case atStart => exact ⟨0, rfl, by omega, Below.refl _ _⟩
          case round =>
            obtain ⟨p, rfl, hp, hbp⟩ := hrel
            have hsp := hbp.size
            have HBP := Lib.hid hbp
            by_cases hlp : p < nd
            · have d10 : decide ((p : Int) < (nd : Int)) = true := by simp; omega
              obtain ⟨D2, hD2⟩ : ∃ x, ds[p]'(by omega) = x := ⟨_, rfl⟩
              have hcd := (hbp.cell (p := ⟨bd, p, none⟩) (by show bd < _; omega)).trans ((HB8.out.cell (p := ⟨bd, p, none⟩) hbdW).trans (HDC.out p (by omega)))
              rw [hD2] at hcd
              have hyp := (hbp.block Y hsw8).trans HY8.out
              obtain ⟨cyp, fyp⟩ := cell_frozen_one hyp
              have HWP := Lib.hid (HWY8.out.below hbp)
              obtain ⟨r, hr⟩ : ∃ r, Im.drop ly D2 = r := ⟨_, rfl⟩
              obtain ⟨r2, hr2'⟩ : ∃ r, Im.get ly D2 = r := ⟨_, rfl⟩
              have K1 := Lib.hid (fun V h => HC.out.pdrop Ay ny cy ly D2 V h)
              have K2 := Lib.hid (fun V h => HC.out.rdrop Ay ny cy ly D2 V h)
              have K4 := Lib.hid (fun V h => HC.out.pget Ay ny cy ly D2 V h)
              have K5 := Lib.hid (fun V h => HC.out.rget Ay ny cy ly D2 V h)
              rw [hr] at K1 K2
              rw [hr2'] at K4 K5
              obtain ⟨l', fst, er⟩ := r
              obtain ⟨ut, un, ue⟩ := r2
              simp only at K1 K2 K4 K5
              obtain ⟨UT, hUT⟩ : ∃ x, Cm.b ut = x := ⟨_, rfl⟩
              rw [hUT] at K4 K5
              have p1 : (fst != fst) = false := by simp
              have p2 : (er != er) = false := by simp
              have p3 : (UT.toList == UT.toList) = true := str_same rfl
              have p4 : (un != un) = false := by simp
              have p5 : (ue != ue) = false := by simp
              have hdd : decide (l' = l') = true := by simp
              have K3 := Lib.hid (fun Aa na ca Ab nb cb V h h' => HC.out.rsame Aa Ab na nb ca cb l' l' V h h')
              rw [hdd] at K3
              have HYP := Lib.hid hyp
              have j3 : (0 : Int) ≤ (p : Int) := by omega
              clear hr hr2' hD2 hyp hbp hdd hUT
              go_wp2_with (first
                | (go_at_call 24; (with_reducible refine (K1.out _ HWP.out).mono ?_); rintro e w5 ⟨A5, n5, c5, rfl, hw5, hb5⟩; have hs5 := hb5.size; have hy5 := var_alloc ((hb5.block Y (by omega)).trans HYP.out) (.cells #[.slice A5 n5 c5] 25); obtain ⟨cy5, fy5⟩ := cell_frozen_one hy5; have HY5 := Lib.hid hy5; have HA5 := Lib.hid (hw5.below ((Below.refl _ _).alloc (Nat.le_refl _) (.cells #[.slice A5 n5 c5] 25))); have HWP5 := Lib.hid ((HWP.out.below hb5).below ((Below.refl _ _).alloc (Nat.le_refl _) (.cells #[.slice A5 n5 c5] 25))); have HB5 := Lib.hid ((HBP.out.trans (hb5.mono hsp)).alloc (by omega) (.cells #[.slice A5 n5 c5] 25)); have HV5 := Lib.hid (heap_alloc_new w5 (.cells #[.slice A5 n5 c5] 25)); have he5 : (w5.alloc (.cells #[.slice A5 n5 c5] 25)).heap.size = w5.heap.size + 1 := (by simp); have HE5 := Lib.hid he5; clear hw5 hb5 hy5 he5)
                | (go_at_call 25; (with_reducible refine (K2.out _ HWP5.out).mono ?_); rintro e w6 ⟨A6', n6, c6', rfl, hw6, hb6⟩; have hs6' := hb6.size; have hy6 := var_alloc ((hb6.block Y (by rw [HE5.out]; omega)).trans HY5.out) (.cells #[.slice A6' n6 c6'] 25); obtain ⟨cy6, fy6⟩ := cell_frozen_one hy6; have HY6 := Lib.hid hy6; have HV6 := Lib.hid (var_alloc ((hb6.block w5.heap.size (by rw [HE5.out]; omega)).trans HV5.out) (.cells #[.slice A6' n6 c6'] 25)); have HU6 := Lib.hid (heap_alloc_new w6 (.cells #[.slice A6' n6 c6'] 25)); have HA6 := Lib.hid ((HA5.out.below hb6).below ((Below.refl _ _).alloc (Nat.le_refl _) (.cells #[.slice A6' n6 c6'] 25))); have HB6' := Lib.hid (hw6.below ((Below.refl _ _).alloc (Nat.le_refl _) (.cells #[.slice A6' n6 c6'] 25))); have HWP6 := Lib.hid ((HWP5.out.below hb6).below ((Below.refl _ _).alloc (Nat.le_refl _) (.cells #[.slice A6' n6 c6'] 25))); have HB7 := Lib.hid ((HB5.out.trans (hb6.mono HB5.out.size)).alloc (Nat.le_trans HB5.out.size hs6') (.cells #[.slice A6' n6 c6'] 25)); have hs56 : w5.heap.size < w6.heap.size := (by have := HE5.out; omega); have he6 : (w6.alloc (.cells #[.slice A6' n6 c6'] 25)).heap.size = w6.heap.size + 1 := (by simp); have HE6 := Lib.hid he6; clear hw6 hb6 hy6 he6 hs6')
                | (go_at_call 26; (with_reducible refine (K4.out _ HWP6.out).mono ?_); rintro e w7 ⟨rfl, hb7⟩; have hs7' := hb7.size; have hy7 := (hb7.block Y (by rw [HE6.out]; omega)).trans HY6.out; obtain ⟨cy7, fy7⟩ := cell_frozen_one hy7; have HV7 := Lib.hid ((hb7.block w5.heap.size (by rw [HE6.out]; omega)).trans HV6.out); have HU7 := Lib.hid ((hb7.block w6.heap.size (by rw [HE6.out]; omega)).trans HU6.out); have HA7 := Lib.hid (HA6.out.below hb7); have HB7' := Lib.hid (HB6'.out.below hb7); have HWP7 := Lib.hid (HWP6.out.below hb7); have HB9 := Lib.hid (HB7.out.trans (hb7.mono HB7.out.size)); have hs67 : w6.heap.size < w7.heap.size := (by have := HE6.out; omega); clear hb7 hy7 hs7')
                | (go_at_call 27; (with_reducible refine (K5.out _ HWP7.out).mono ?_); rintro e w9 ⟨rfl, hb9⟩; have hv9 := (hb9.block w5.heap.size (by omega)).trans HV7.out; have hu9 := (hb9.block w6.heap.size (by omega)).trans HU7.out; obtain ⟨cv9, fv9⟩ := cell_frozen_one hv9; obtain ⟨cu9, fu9⟩ := cell_frozen_one hu9; have HA9 := Lib.hid (HA7.out.below hb9); have HB9' := Lib.hid (HB7'.out.below hb9); have HB10 := Lib.hid (HB9.out.trans (hb9.mono HB9.out.size)); clear hb9 hv9 hu9)
                | (go_at_call 21; (with_reducible refine (K3.out _ _ _ _ _ _ _ HA9.out HB9'.out).mono ?_); rintro e w11 ⟨rfl, hb11⟩; have HB11 := Lib.hid (HB10.out.trans (hb11.mono HB10.out.size)); clear hb11)
                | fail)
              go_roundw
              case rel =>
                first
                | exact ⟨p + 1, by go_num, by omega, HB11.out⟩
                | ((repeat apply Exists.intro); exact ⟨⟨p + 1, by go_num, by omega, HB11.out⟩, rfl⟩)
              case measure => simp [intOf]; omega
            · obtain rfl : nd = p := by omega
              have d10 : decide ((nd : Int) < (nd : Int)) = false := by simp
              clear hbp hlp
              go_wp2_with fail
              go_roundw
              case rel =>
                first
                | exact ⟨k + 1, by go_num, by omega, HB8.out.trans (HBP.out.mono HB8.out.size)⟩
                | ((repeat apply Exists.intro); exact ⟨⟨k + 1, by go_num, by omega, HB8.out.trans (HBP.out.mono HB8.out.size)⟩, rfl⟩)
              case measure => simp [intOf]; omega
    · obtain rfl : k = 3 := by omega
      have d8 : decide (((3 : Nat) : Int) < 3) = false := by decide
      clear hbr
      go_wp2_with fail
      go_ret
      exact ⟨rfl, HB0.out.trans (HBR.out.mono HB0.out.size)⟩

end Go.Proofs.Ytmdakplaaehmnaa
