/-
  Devices that calls answer, written out; the statements' sane and small.
-/
import Derived.Test.YthdkidiemhfffaaEh
import Derived.Test.YthdkidiemhfffaaDl
namespace Go.Proofs.Ythdkidiemhfffaa
open Go.RowKit
set_option maxHeartbeats 4000000

/-- a call answers a device and a number -/
def Dv.Ans (f : FuncId) (args : Array Value) (W : World) (d : Dv.D) (code : Int) : Prop :=
  Calls Try.prog f args W fun e w' => ∃ (s : Int) (A : Option Addr) (n c : Nat) (B : Option Addr) (m k : Nat) (C : Option Addr) (l q : Nat) (f : Int) (b : Bool),
    e = .returned (.tuple #[.agg #[.int .i64 s, .slice A n c, .slice B m k, .slice C l q, .int .i64 f, .bool b], .int .i64 code]) ∧ DevN w' W.heap.size (.agg #[.int .i64 s, .slice A n c, .slice B m k, .slice C l q, .int .i64 f, .bool b]) d ∧ d.size = s ∧ d.blocks.length = n ∧ d.fuse = f ∧ d.down = b ∧ Below W.heap.size W w'
theorem Dv.ans {f : FuncId} {args : Array Value} {W : World} {d : Dv.D} {code : Int} (h : Calls Try.prog f args W fun e w' => ∃ v, e = .returned (.tuple #[v, .int .i64 code]) ∧ DevN w' W.heap.size v d ∧ Below W.heap.size W w') : Dv.Ans f args W d code := by
  refine Calls.mono h ?_
  rintro e w' ⟨v, rfl, hN, hb⟩
  have hN0 := hN
  obtain ⟨A, c, A1, n1, c1, A2, n2, c2, rfl⟩ := hN.form rfl rfl rfl
  exact ⟨_, A, _, c, A1, n1, c1, A2, n2, c2, _, _, rfl, hN0, rfl, rfl, rfl, rfl, hb⟩
/-- a variable in block p holds a device -/
structure Dv.Va (w : World) (B : Nat) (wr : World) (p : Nat) (d : Dv.D) (x0 x1 x2 x3 x4 x5 : Value) : Prop where
  box : Box6 wr p 25 x0 x1 x2 x3 x4 x5
  dev : DevN wr 0 (.agg #[x0, x1, x2, x3, x4, x5]) d
  bel : Below B w wr
  Bp : B ≤ p
theorem Dv.Va.below {w wr wr' : World} {B p : Nat} {d : Dv.D} {x0 x1 x2 x3 x4 x5 : Value} (h : Dv.Va w B wr p d x0 x1 x2 x3 x4 x5) (hb : Below wr.heap.size wr wr') : Dv.Va w B wr' p d x0 x1 x2 x3 x4 x5 :=
  ⟨h.box.below hb h.box.lt, h.dev.below hb, h.bel.trans (hb.mono (by have := h.box.lt; have := h.Bp; omega)), h.Bp⟩
theorem Dv.Va.new {w wr : World} {B C : Nat} {d : Dv.D} {x0 x1 x2 x3 x4 x5 : Value} (hd : DevN wr C (.agg #[x0, x1, x2, x3, x4, x5]) d) (hb : Below B w wr) (hB : B ≤ wr.heap.size) {p : Nat} (hp : wr.heap.size = p) : Dv.Va w B (wr.alloc (.cells #[x0, x1, x2, x3, x4, x5] 25)) p d x0 x1 x2 x3 x4 x5 :=
  ⟨Box6.new _ _ _ _ _ _ _ _ _ hp, (hd.mono (Nat.zero_le _)).below ((Below.refl _ _).alloc (Nat.le_refl _) _), hb.alloc hB _, by omega⟩
theorem Dv.Va.store {w wr : World} {B C p : Nat} {d d' : Dv.D} {x0 x1 x2 x3 x4 x5 y0 y1 y2 y3 y4 y5 : Value} (h : Dv.Va w B wr p d x0 x1 x2 x3 x4 x5) (hd : DevN wr C (.agg #[y0, y1, y2, y3, y4, y5]) d') : Dv.Va w B (st6 wr p y0 y1 y2 y3 y4 y5) p d' y0 y1 y2 y3 y4 y5 :=
  ⟨h.box.st _ _ _ _ _ _, (hd.mono (Nat.zero_le _)).st6 h.box (by decide) (by decide) _ _ _ _ _ _, below_st6 h.bel h.Bp _ _ _ _ _ _, h.Bp⟩
theorem Dv.Va.far {w wr : World} {B p r : Nat} {d : Dv.D} {x0 x1 x2 x3 x4 x5 z0 z1 z2 z3 z4 z5 : Value} (h : Dv.Va w B wr p d x0 x1 x2 x3 x4 x5) (hr : Box6 wr r 25 z0 z1 z2 z3 z4 z5) (hpr : p ≠ r) (hB : B ≤ r) (y0 y1 y2 y3 y4 y5 : Value) : Dv.Va w B (st6 wr r y0 y1 y2 y3 y4 y5) p d x0 x1 x2 x3 x4 x5 :=
  ⟨h.box.far hpr _ _ _ _ _ _, h.dev.st6 hr (by decide) (by decide) _ _ _ _ _ _, below_st6 h.bel hB _ _ _ _ _ _, h.Bp⟩

/-- the devices of the example -/
def Dv.x0 : Dv.D := ⟨16, [ByteArray.empty, ByteArray.empty, ByteArray.empty], [], [], 0, false⟩
def Dv.x1 : Dv.D := ⟨16, [ByteArray.empty, ByteArray.empty, ByteArray.empty], [], [], 2, false⟩
def Dv.x2 : Dv.D := ⟨16, [ByteArray.empty, ⟨#[97]⟩, ByteArray.empty], [], [], 1, false⟩
def Dv.x3 : Dv.D := ⟨16, [ByteArray.empty, ⟨#[97]⟩, ByteArray.empty], [2], [], 0, true⟩
def Dv.x4 : Dv.D := ⟨16, [ByteArray.empty, ⟨#[97]⟩, ByteArray.empty], [2], [], 0, false⟩
theorem Dv.x0_ok : Dv.Ok Dv.x0 := Dv.Ok.new (size := 16) (blocks := 3) (by decide) (by decide) (by decide) (by decide)
theorem Dv.x1_ok : Dv.Ok Dv.x1 := Dv.x0_ok.with' (f := 2) (by decide) (by decide) false
theorem Dv.x2_ok : Dv.Ok Dv.x2 := Dv.x1_ok.put (n := 1) (s := ⟨#[97]⟩) (by decide) (by decide) (by decide) (by decide)
theorem Dv.x3_ok : Dv.Ok Dv.x3 := Dv.x2_ok.tear (n := 2) (by decide) (by decide)
theorem Dv.x4_ok : Dv.Ok Dv.x4 := Dv.x3_ok.with' (f := 0) (by decide) (by decide) false
theorem Dv.s0 : Dv.new 16 3 = (Dv.x0, 0) := Dv.new_yes (by decide)
theorem Dv.s1 : Dv.arm Dv.x0 2 = (Dv.x1, 0) := Dv.arm_ok (Dv.chk_ok Dv.x0_ok) (by decide)
theorem Dv.s2 : Dv.write Dv.x1 1 ⟨#[97]⟩ = (Dv.x2, 0) := Dv.write_put (Dv.chk_ok Dv.x1_ok) rfl (by decide) (by decide) (by decide) (by decide)
theorem Dv.s3 : Dv.write Dv.x2 2 ⟨#[98]⟩ = (Dv.x3, 11) := Dv.write_tear (Dv.chk_ok Dv.x2_ok) rfl (by decide) (by decide) (by decide) (by decide)
theorem Dv.s4 : Dv.read Dv.x3 1 = (ByteArray.empty, 11) := Dv.read_down (Dv.chk_ok Dv.x3_ok) rfl 1
theorem Dv.s5 : Dv.start Dv.x3 = (Dv.x4, 0) := Dv.start_ok (Dv.chk_ok Dv.x3_ok)
theorem Dv.s6 : Dv.read Dv.x4 1 = (⟨#[97]⟩, 0) := Dv.read_ok (Dv.chk_ok Dv.x4_ok) rfl (by decide) (by decide) (by decide)
theorem Dv.s7 : Dv.read Dv.x4 2 = (ByteArray.empty, 13) := Dv.read_torn (Dv.chk_ok Dv.x4_ok) rfl (by decide) (by decide) (by decide)
theorem Dv.newA (a b : Int) (W : World) {q : Dv.D × Int} (h : Dv.new a b = q) : Dv.Ans 28 #[.int .i64 a, .int .i64 b] W q.1 q.2 := h ▸ Dv.ans (newD_any a b W)
theorem Dv.armA {W : World} {v : Value} {d : Dv.D} (hd : DevV W v d) {f : Int} {q : Dv.D × Int} (h : Dv.arm d f = q) : Dv.Ans 27 #[v, .int .i64 f] W q.1 q.2 := h ▸ Dv.ans (armD_any v d f W hd)
theorem Dv.startA {W : World} {v : Value} {d : Dv.D} (hd : DevV W v d) {q : Dv.D × Int} (h : Dv.start d = q) : Dv.Ans 15 #[v] W q.1 q.2 := h ▸ Dv.ans (startD_any v d W hd)
theorem Dv.failA {W : World} {v : Value} {d : Dv.D} (hd : DevV W v d) {m : Int} {q : Dv.D × Int} (h : Dv.fail d m = q) : Dv.Ans 24 #[v, .int .i64 m] W q.1 q.2 := h ▸ Dv.ans (failD_any v d m W hd)
theorem Dv.writeA {W : World} {v : Value} {d : Dv.D} (hd : DevV W v d) {m : Int} {s : ByteArray} (hs : s.size ≤ 140737488355328) {q : Dv.D × Int} (h : Dv.write d m s = q) : Dv.Ans 26 #[v, .int .i64 m, .string s] W q.1 q.2 := h ▸ Dv.ans (writeD_any v d m s W hd hs)
theorem Dv.readA {W : World} {v : Value} {d : Dv.D} (hd : DevV W v d) {m : Int} {q : ByteArray × Int} (h : Dv.read d m = q) : Calls Try.prog 22 #[v, .int .i64 m] W fun e w' => e = .returned (.tuple #[.string q.1, .int .i64 q.2]) ∧ Below W.heap.size W w' := h ▸ readD_any v d m W hd

set_option maxRecDepth 100000 in
theorem saneD_any (w : World) : Calls Try.prog 6 #[] w fun e w' => e = .returned (.bool true) ∧ Below w.heap.size w w' := by
  obtain ⟨B, hB⟩ : ∃ B, w.heap.size = B := ⟨_, rfl⟩
  have HBE := Lib.hid hB
  have e97 : ((⟨#[97]⟩ : ByteArray).toList == (⟨#[97]⟩ : ByteArray).toList) = true := beq_iff_eq.2 rfl
  rw [hB]
  clear hB
  go_enter Try.func6, Try.ntmps6
  go_wp2_with fail
  refine (Dv.newA 16 3 _ Dv.s0).mono ?_
  rintro e w1 ⟨xas, xaA, xan, xac, xaB, xam, xad, xaC, xak, xae, xaf, xab, rfl, xaV, xa1, xa2, xa3, xa4, hq⟩
  rw [HBE.out] at hq
  have hs1 := hq.size
  rw [HBE.out] at hs1
  obtain ⟨r, hr⟩ : ∃ r, w1.heap.size = r := ⟨_, rfl⟩
  obtain ⟨w2, hw2⟩ : ∃ V, w1.alloc (.cells #[.int .i64 xas, .slice xaA xan xac, .slice xaB xam xad, .slice xaC xak xae, .int .i64 xaf, .bool xab] 25) = V := ⟨_, rfl⟩
  have S2 := Lib.hid (show Dv.Va w B w2 r _ (.int .i64 xas) (.slice xaA xan xac) (.slice xaB xam xad) (.slice xaC xak xae) (.int .i64 xaf) (.bool xab) from hw2 ▸ Dv.Va.new xaV hq hs1 hr)
  have HW2 := Lib.hid hw2
  clear hq hw2 xaV xa1 xa2 xa3 xa4
  go_wp2_with fail
  rw [HW2.out]
  clear hr
  obtain ⟨p0, p1, p2, p3, p4, p5, f0, f1, f2, f3, f4, f5⟩ := S2.out.box.s
  refine (Dv.armA S2.out.dev.dev Dv.s1).mono ?_
  rintro e w3 ⟨xbs, xbA, xbn, xbc, xbB, xbm, xbd, xbC, xbk, xbe, xbf, xbb, rfl, xbV, xb1, xb2, xb3, xb4, hq⟩
  have T3 := Lib.hid (S2.out.below hq)
  obtain ⟨w4, hw4⟩ : ∃ V, ((((((w3.setCell ⟨r, 0, none⟩ (.int .i64 xbs)).setCell ⟨r, 1, none⟩ (.slice xbA xbn xbc)).setCell ⟨r, 2, none⟩ (.slice xbB xbm xbd)).setCell ⟨r, 3, none⟩ (.slice xbC xbk xbe)).setCell ⟨r, 4, none⟩ (.int .i64 xbf)).setCell ⟨r, 5, none⟩ (.bool xbb)) = V := ⟨_, rfl⟩
  have S4 := Lib.hid (show Dv.Va w B w4 r _ (.int .i64 xbs) (.slice xbA xbn xbc) (.slice xbB xbm xbd) (.slice xbC xbk xbe) (.int .i64 xbf) (.bool xbb) from by rw [← hw4]; exact T3.out.store xbV)
  have HW4 := Lib.hid hw4
  clear hq hw4 xbV xb1 xb2 xb3 xb4 p0 p1 p2 p3 p4 p5 f0 f1 f2 f3 f4 f5
  obtain ⟨p0, p1, p2, p3, p4, p5, f0, f1, f2, f3, f4, f5⟩ := T3.out.box.s
  go_wp2_with fail
  rw [HW4.out]
  refine (Dv.writeA S4.out.dev.dev (by decide) Dv.s2).mono ?_
  rintro e w5 ⟨xcs, xcA, xcn, xcc, xcB, xcm, xcd, xcC, xck, xce, xcf, xcb, rfl, xcV, xc1, xc2, xc3, xc4, hq⟩
  have T5 := Lib.hid (S4.out.below hq)
  obtain ⟨w6, hw6⟩ : ∃ V, ((((((w5.setCell ⟨r, 0, none⟩ (.int .i64 xcs)).setCell ⟨r, 1, none⟩ (.slice xcA xcn xcc)).setCell ⟨r, 2, none⟩ (.slice xcB xcm xcd)).setCell ⟨r, 3, none⟩ (.slice xcC xck xce)).setCell ⟨r, 4, none⟩ (.int .i64 xcf)).setCell ⟨r, 5, none⟩ (.bool xcb)) = V := ⟨_, rfl⟩
  have S6 := Lib.hid (show Dv.Va w B w6 r _ (.int .i64 xcs) (.slice xcA xcn xcc) (.slice xcB xcm xcd) (.slice xcC xck xce) (.int .i64 xcf) (.bool xcb) from by rw [← hw6]; exact T5.out.store xcV)
  have HW6 := Lib.hid hw6
  clear hq hw6 xcV xc1 xc2 xc3 xc4 p0 p1 p2 p3 p4 p5 f0 f1 f2 f3 f4 f5
  obtain ⟨p0, p1, p2, p3, p4, p5, f0, f1, f2, f3, f4, f5⟩ := T5.out.box.s
  go_wp2_with fail
  rw [HW6.out]
  refine (Dv.writeA S6.out.dev.dev (by decide) Dv.s3).mono ?_
  rintro e w7 ⟨xds, xdA, xdn, xdc, xdB, xdm, xdd, xdC, xdk, xde, xdf, xdb, rfl, xdV, xd1, xd2, xd3, xd4, hq⟩
  have T7 := Lib.hid (S6.out.below hq)
  obtain ⟨w8, hw8⟩ : ∃ V, ((((((w7.setCell ⟨r, 0, none⟩ (.int .i64 xds)).setCell ⟨r, 1, none⟩ (.slice xdA xdn xdc)).setCell ⟨r, 2, none⟩ (.slice xdB xdm xdd)).setCell ⟨r, 3, none⟩ (.slice xdC xdk xde)).setCell ⟨r, 4, none⟩ (.int .i64 xdf)).setCell ⟨r, 5, none⟩ (.bool xdb)) = V := ⟨_, rfl⟩
  have S8 := Lib.hid (show Dv.Va w B w8 r _ (.int .i64 xds) (.slice xdA xdn xdc) (.slice xdB xdm xdd) (.slice xdC xdk xde) (.int .i64 xdf) (.bool xdb) from by rw [← hw8]; exact T7.out.store xdV)
  have HW8 := Lib.hid hw8
  clear hq hw8 xdV xd1 xd2 xd3 xd4 p0 p1 p2 p3 p4 p5 f0 f1 f2 f3 f4 f5
  obtain ⟨p0, p1, p2, p3, p4, p5, f0, f1, f2, f3, f4, f5⟩ := T7.out.box.s
  go_wp2_with fail
  rw [HW8.out]
  refine (Dv.readA S8.out.dev.dev Dv.s4).mono ?_
  rintro e w9 ⟨rfl, hq⟩
  have S9 := Lib.hid (S8.out.below hq)
  clear hq p0 p1 p2 p3 p4 p5 f0 f1 f2 f3 f4 f5
  obtain ⟨p0, p1, p2, p3, p4, p5, f0, f1, f2, f3, f4, f5⟩ := S9.out.box.s
  go_wp2_with fail
  refine (Dv.startA S9.out.dev.dev Dv.s5).mono ?_
  rintro e w10 ⟨xgs, xgA, xgn, xgc, xgB, xgm, xgd, xgC, xgk, xge, xgf, xgb, rfl, xgV, xg1, xg2, xg3, xg4, hq⟩
  have T10 := Lib.hid (S9.out.below hq)
  obtain ⟨w11, hw11⟩ : ∃ V, ((((((w10.setCell ⟨r, 0, none⟩ (.int .i64 xgs)).setCell ⟨r, 1, none⟩ (.slice xgA xgn xgc)).setCell ⟨r, 2, none⟩ (.slice xgB xgm xgd)).setCell ⟨r, 3, none⟩ (.slice xgC xgk xge)).setCell ⟨r, 4, none⟩ (.int .i64 xgf)).setCell ⟨r, 5, none⟩ (.bool xgb)) = V := ⟨_, rfl⟩
  have S11 := Lib.hid (show Dv.Va w B w11 r _ (.int .i64 xgs) (.slice xgA xgn xgc) (.slice xgB xgm xgd) (.slice xgC xgk xge) (.int .i64 xgf) (.bool xgb) from by rw [← hw11]; exact T10.out.store xgV)
  have HW11 := Lib.hid hw11
  clear hq hw11 xgV xg1 xg2 xg3 xg4 p0 p1 p2 p3 p4 p5 f0 f1 f2 f3 f4 f5
  obtain ⟨p0, p1, p2, p3, p4, p5, f0, f1, f2, f3, f4, f5⟩ := T10.out.box.s
  go_wp2_with fail
  rw [HW11.out]
  refine (Dv.readA S11.out.dev.dev Dv.s6).mono ?_
  rintro e w12 ⟨rfl, hq⟩
  have S12 := Lib.hid (S11.out.below hq)
  clear hq p0 p1 p2 p3 p4 p5 f0 f1 f2 f3 f4 f5
  obtain ⟨p0, p1, p2, p3, p4, p5, f0, f1, f2, f3, f4, f5⟩ := S12.out.box.s
  go_wp2_with fail
  refine (Dv.readA S12.out.dev.dev Dv.s7).mono ?_
  rintro e w13 ⟨rfl, hq⟩
  have S13 := Lib.hid (S12.out.below hq)
  clear hq p0 p1 p2 p3 p4 p5 f0 f1 f2 f3 f4 f5
  go_wp2_with fail
  go_ret
  exact ⟨rfl, S13.out.bel⟩

end Go.Proofs.Ythdkidiemhfffaa
