/-
  What refs must say, call by call, as a structure: the walks of the statements lean on it alone. And indexes of one row.
-/
import Derived.Test.YtmdakplaaehmnaaRw
import Derived.Test.YtmdakplaaehmnaaId
namespace Go.Proofs.Ytmdakplaaehmnaa
open Go.RowKit

/-- an index as the walks pass it -/
def Im.Arg (w : World) (A : Option Addr) (n c : Nat) (l : List Im.Rw) : Prop := RowsIn w A n c l ∧ (A = none → c = 0) ∧ n ≤ 4096 ∧ ∀ x ∈ l, x.2.2.length ≤ 100000

structure RefsSays : Prop where
  check : ∀ (A : Option Addr) (n c : Nat) (l : List Im.Rw) (w : World), Im.Arg w A n c l →
    Calls Try.prog 18 #[.agg #[.slice A n c]] w fun e w' => e = .returned (.int .i64 (Im.chk l)) ∧ Below w.heap.size w w'
  add : ∀ (A : Option Addr) (n c : Nat) (l : List Im.Rw) (S : ByteArray) (w : World), Im.Arg w A n c l → S.size ≤ 100000 →
    Calls Try.prog 22 #[.agg #[.slice A n c], .string S] w fun e w' => ∃ v, e = .returned (.tuple #[.agg #[v], .bool (Im.add l S.data.toList).2.1, .int .i64 (Im.add l S.data.toList).2.2]) ∧ RowsOwn w' w.heap.size v (Im.add l S.data.toList).1 ∧ Below w.heap.size w w'
  drop : ∀ (A : Option Addr) (n c : Nat) (l : List Im.Rw) (d : Int) (w : World), Im.Arg w A n c l →
    Calls Try.prog 24 #[.agg #[.slice A n c], .int .i64 d] w fun e w' => ∃ v, e = .returned (.tuple #[.agg #[v], .bool (Im.drop l d).2.1, .int .i64 (Im.drop l d).2.2]) ∧ RowsOwn w' w.heap.size v (Im.drop l d).1 ∧ Below w.heap.size w w'
  get : ∀ (A : Option Addr) (n c : Nat) (l : List Im.Rw) (d : Int) (w : World), Im.Arg w A n c l →
    Calls Try.prog 26 #[.agg #[.slice A n c], .int .i64 d] w fun e w' => e = .returned (.tuple #[.string (Cm.b (Im.get l d).1), .int .i64 (Im.get l d).2.1, .int .i64 (Im.get l d).2.2]) ∧ Below w.heap.size w w'
  total : ∀ (A : Option Addr) (n c : Nat) (l : List Im.Rw) (w : World), Im.Arg w A n c l →
    Calls Try.prog 16 #[.agg #[.slice A n c]] w fun e w' => e = .returned (.tuple #[.int .i64 (Im.tot l).1, .int .i64 (Im.tot l).2.1, .int .i64 (Im.tot l).2.2]) ∧ Below w.heap.size w w'
  same : ∀ (A A' : Option Addr) (n n' c c' : Nat) (l l' : List Im.Rw) (w : World), Im.Arg w A n c l → Im.Arg w A' n' c' l' →
    Calls Try.prog 20 #[.agg #[.slice A n c], .agg #[.slice A' n' c']] w fun e w' => e = .returned (.bool (decide (l = l'))) ∧ Below w.heap.size w w'

theorem Im.Arg.below {w w' : World} {A : Option Addr} {n c : Nat} {l : List Im.Rw} (h : Im.Arg w A n c l) (hb : Below w.heap.size w w') : Im.Arg w' A n c l := ⟨h.1.below hb, h.2⟩
theorem Im.Arg.nil (w : World) : Im.Arg w none 0 0 [] := ⟨RowsIn.nil _ _ _, fun _ => rfl, by omega, fun x hx => absurd hx (by simp)⟩
theorem RowsOwn.arg {w : World} {B : Nat} {v : Value} {l : List Im.Rw} (h : RowsOwn w B v l) (hn : l.length ≤ 4096) (hx : ∀ x ∈ l, x.2.2.length ≤ 100000) : ∃ A c, v = .slice A l.length c ∧ Im.Arg w A l.length c l := by
  obtain ⟨A, c, e, hr⟩ := own_rows h
  refine ⟨A, c, e, hr, fun hA => ?_, hn, hx⟩
  subst hA e
  rcases h.2 with ⟨hv, _⟩ | ⟨g, cap, cur, hv, _⟩
  · injection hv
  · injection hv with h1; cases h1

/-! indexes of one row -/
def Im.one (k : Int) (s : List UInt8) : List Im.Rw := [(Dm.sum s, k, s)]
theorem Im.chk_nil : Im.chk [] = 0 := Im.chk_of (by simp) (fun r hr => absurd hr (by simp)) List.Pairwise.nil
theorem Im.chk_one {k : Int} {s : List UInt8} (hs : s.length ≤ 16384) (h0 : 1 ≤ k) (h1 : k < 2147483647) : Im.chk (Im.one k s) = 0 :=
  Im.chk_of (by simp [Im.one]) (fun r hr => by
    simp only [Im.one, List.mem_singleton] at hr
    subst hr
    simp only [Im.okR, decide_eq_true_eq]
    exact ⟨hs, trivial, h0, h1⟩) (List.pairwise_singleton _ _)
theorem Im.find_one (k : Int) (s : List UInt8) : Im.find (Im.one k s) (Dm.sum s) = 0 := Im.find_eq (by simp) (fun j _ h => absurd h (by omega)) (fun _ => by simp [Im.one])
theorem Im.add_nil {s : List UInt8} (hs : s.length ≤ 16384) : Im.add [] s = (Im.one 1 s, true, 0) := by
  unfold Im.add
  rw [if_neg (by simp [Im.chk_nil]), if_neg (by omega)]
  simp [Im.one]
theorem Im.add_one {k : Int} {s : List UInt8} (hs : s.length ≤ 16384) (h0 : 1 ≤ k) (h1 : k < 2147483646) : Im.add (Im.one k s) s = (Im.one (k + 1) s, false, 0) := by
  unfold Im.add
  rw [if_neg (by simp [Im.chk_one hs h0 (by omega)]), if_neg (by omega), Im.find_one]
  simp [Im.one]
  omega
theorem Im.drop_one {k : Int} {s : List UInt8} (hs : s.length ≤ 16384) (h0 : 2 ≤ k) (h1 : k < 2147483647) : Im.drop (Im.one k s) (Dm.sum s) = (Im.one (k - 1) s, false, 0) := by
  unfold Im.drop
  rw [if_neg (by simp [Im.chk_one hs (by omega) h1]), Im.find_one]
  simp [Im.one]
  omega
theorem Im.get_one {k : Int} {s : List UInt8} (hs : s.length ≤ 16384) (h0 : 1 ≤ k) (h1 : k < 2147483647) : Im.get (Im.one k s) (Dm.sum s) = (s, k, 0) := by
  unfold Im.get
  rw [if_neg (by simp [Im.chk_one hs h0 h1]), Im.find_one]
  simp [Im.one]

end Go.Proofs.Ytmdakplaaehmnaa
