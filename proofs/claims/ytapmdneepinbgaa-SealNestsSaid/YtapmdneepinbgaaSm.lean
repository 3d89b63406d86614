/-
  Plain arithmetic of layer 3 (seal): keys, locks, sealed texts. No program is named here.
-/
import Derived.Test.YtapmdneepinbgaaWm2
import Derived.Test.YtapmdneepinbgaaDm
import Derived.Test.YtapmdneepinbgaaKit
namespace Go.Proofs.Ytapmdneepinbgaa.Sm

def keyB (k : Int) : Bool := decide (0 ≤ k ∧ k < 4294967294)
def lockB (n : Int) : Bool := decide (1 ≤ n ∧ n % 3 = 1 ∧ n ≤ 12884901880)
/-- a sealed text is valid -/
def valB (L : Int) (T : ByteArray) : Bool := lockB L && decide (T.size ≤ 16384)
def priv (k : Int) : Int × Int := if 0 ≤ k ∧ k < 2147483647 then (2 * k + 1, 0) else (0, 1)
def lock (k : Int) : Int × Int := if keyB k = true then (3 * k + 1, 0) else (0, 1)
def nil : ByteArray := ⟨#[]⟩
def sl (T : ByteArray) (k : Int) : (Int × ByteArray) × Int := if keyB k = false then ((0, nil), 1) else if 16384 < T.size then ((0, nil), 4) else ((3 * k + 1, T), 0)
def opn (L : Int) (T : ByteArray) (k : Int) : ByteArray × Int := if valB L T = false then (nil, 2) else if keyB k = false then (nil, 1) else if L ≠ 3 * k + 1 then (nil, 9) else (T, 0)
def bytes (L : Int) (T : ByteArray) : List UInt8 := Wm.encI L ++ Wm.encT T.data.toList
def enc (L : Int) (T : ByteArray) : ByteArray × Int := if valB L T = false then (nil, 2) else (⟨(bytes L T).toArray⟩, 0)
def name (L : Int) (T : ByteArray) : (Int × Int) × Int := if valB L T = false then ((0, 0), 2) else ((Dm.sum (bytes L T), (bytes L T).length), 0)
/-- what bytes mean: the sealed text, the index behind it, the error -/
def dec (s : List UInt8) (k : Int) : (Int × ByteArray) × Int × Int :=
  if (Wm.int s k).2.2 ≠ 0 then ((0, nil), 0, (Wm.int s k).2.2)
  else if (Wm.text s (Wm.int s k).2.1 16384).2.2 ≠ 0 then ((0, nil), 0, (Wm.text s (Wm.int s k).2.1 16384).2.2)
  else if valB (Wm.int s k).1 ⟨(Wm.text s (Wm.int s k).2.1 16384).1.toArray⟩ = false then ((0, nil), 0, 2)
  else (((Wm.int s k).1, ⟨(Wm.text s (Wm.int s k).2.1 16384).1.toArray⟩), (Wm.text s (Wm.int s k).2.1 16384).2.1, 0)

theorem keyB_true {k : Int} (h0 : 0 ≤ k) (h1 : k < 4294967294) : keyB k = true := decide_eq_true ⟨h0, h1⟩
theorem keyB_false {k : Int} (h : ¬ (0 ≤ k ∧ k < 4294967294)) : keyB k = false := decide_eq_false h
theorem of_keyB {k : Int} (h : keyB k = true) : 0 ≤ k ∧ k < 4294967294 := of_decide_eq_true h
theorem lockB_of {k : Int} (h0 : 0 ≤ k) (h1 : k < 4294967294) : lockB (3 * k + 1) = true := decide_eq_true (by omega)
theorem valB_of {L : Int} {T : ByteArray} (h : lockB L = true) (hT : T.size ≤ 16384) : valB L T = true := by
  unfold valB; rw [h, Bool.true_and]; exact decide_eq_true hT
theorem valB_big {L : Int} {T : ByteArray} (hT : 16384 < T.size) : valB L T = false := by
  unfold valB; rw [show decide (T.size ≤ 16384) = false from decide_eq_false (by omega), Bool.and_false]
theorem of_valB {L : Int} {T : ByteArray} (h : valB L T = true) : (1 ≤ L ∧ L % 3 = 1 ∧ L ≤ 12884901880) ∧ T.size ≤ 16384 := by
  unfold valB at h
  rw [Bool.and_eq_true] at h
  exact ⟨of_decide_eq_true h.1, of_decide_eq_true h.2⟩
theorem bytes_length (L : Int) (T : ByteArray) : 2 ≤ (bytes L T).length ∧ (bytes L T).length ≤ 20 + T.size := by
  have h1 := Wm.encI_length L
  have h2 := Wm.encI_length (T.data.toList.length : Int)
  have h3 : T.data.toList.length = T.size := by simp
  unfold bytes Wm.encT
  simp only [List.length_append]
  omega
theorem seal_ok {T : ByteArray} {k : Int} (h0 : 0 ≤ k) (h1 : k < 4294967294) (hT : T.size ≤ 16384) : sl T k = ((3 * k + 1, T), 0) := by
  unfold sl; rw [if_neg (by rw [keyB_true h0 h1]; decide), if_neg (by omega)]
theorem enc_ok {L : Int} {T : ByteArray} (h : valB L T = true) : enc L T = (⟨(bytes L T).toArray⟩, 0) := by
  unfold enc; rw [if_neg (by rw [h]; decide)]
theorem opn_ok {T : ByteArray} {k q : Int} (h0 : 0 ≤ k) (h1 : k < 4294967294) (hT : T.size ≤ 16384) (q0 : 0 ≤ q) (q1 : q < 4294967294) : opn (3 * k + 1) T q = if k = q then (T, 0) else (nil, 9) := by
  unfold opn
  rw [if_neg (by rw [valB_of (lockB_of h0 h1) hT]; decide), if_neg (by rw [keyB_true q0 q1]; decide)]
  by_cases h : k = q
  · rw [if_neg (by omega), if_pos h]
  · rw [if_pos (by omega), if_neg h]

/-- what was written is read, whatever stands around it -/
theorem dec_bytes (a r : List UInt8) (L : Int) (T : ByteArray) (h : valB L T = true) : dec (a ++ (bytes L T ++ r)) a.length = ((L, T), (a.length : Int) + (bytes L T).length, 0) := by
  obtain ⟨⟨h0, _, h1⟩, hT⟩ := of_valB h
  have e1 : a ++ (bytes L T ++ r) = a ++ (Wm.encI L ++ (Wm.encT T.data.toList ++ r)) := by simp [bytes]
  have g1 := Wm.int_enc a L (Wm.encT T.data.toList ++ r) (by omega) (by omega)
  have hl : T.data.toList.length = T.size := by simp
  have g2 := Wm.text_enc (a ++ Wm.encI L) T.data.toList r 16384 (by omega) (by omega)
  have e2 : (a ++ Wm.encI L) ++ (Wm.encT T.data.toList ++ r) = a ++ (Wm.encI L ++ (Wm.encT T.data.toList ++ r)) := by simp
  rw [e2, List.length_append] at g2
  have e3 : ((a.length + (Wm.encI L).length : Nat) : Int) = (a.length : Int) + ((Wm.encI L).length : Int) := by omega
  rw [e3] at g2
  have e4 : (⟨T.data.toList.toArray⟩ : ByteArray) = T := bytes_ext (by simp)
  unfold dec
  rw [e1, g1]
  simp only [ne_eq, not_true_eq_false, if_false, g2, e4]
  rw [if_neg (by rw [h]; decide)]
  refine Prod.ext rfl (Prod.ext ?_ rfl)
  simp [bytes]; omega
/-- sealed texts that differ have different bytes -/
theorem bytes_inj {L M : Int} {T U : ByteArray} (h : valB L T = true) (h2 : valB M U = true) (e : bytes L T = bytes M U) : L = M ∧ T = U := by
  have g1 := dec_bytes [] [] L T h
  have g2 := dec_bytes [] [] M U h2
  rw [e, g2] at g1
  simp only [Prod.mk.injEq] at g1
  exact ⟨g1.1.1.symm, g1.1.2.symm⟩

theorem text_cases (s : List UInt8) (k most : Int) : (∃ e, e ≠ 0 ∧ Wm.text s k most = ([], 0, e)) ∨ (∃ t q, Wm.text s k most = (t, q, 0) ∧ (t.length : Int) ≤ most ∧ 0 ≤ q ∧ q ≤ s.length) := by
  rcases Wm.lenR_cases s k most with ⟨e, he, h⟩ | ⟨x, q, h, _, x0, xm, k0, kq, qs, _⟩
  · exact .inl ⟨e, he, by unfold Wm.text; rw [h]; simp [he]⟩
  · unfold Wm.text
    rw [h]
    simp only [ne_eq, not_true_eq_false, if_false]
    by_cases hs : (s.length : Int) - q < x
    · exact .inl ⟨3, by decide, by rw [if_pos hs]⟩
    · refine .inr ⟨_, _, by rw [if_neg hs], ?_, by omega, by omega⟩
      simp only [List.length_take, List.length_drop]
      omega

theorem sl_bd {T : ByteArray} {n m : Int} {X : ByteArray} {e : Int} (h : sl T n = ((m, X), e)) {B : Nat} (hT : T.size ≤ B) : (-9223372036854775808 ≤ m ∧ m ≤ 9223372036854775807) ∧ X.size ≤ B := by
  unfold sl at h
  have hn : nil.size = 0 := rfl
  by_cases h1 : keyB n = false
  · rw [if_pos h1] at h
    simp only [Prod.mk.injEq] at h
    obtain ⟨⟨rfl, rfl⟩, _⟩ := h
    omega
  · rw [if_neg h1] at h
    have h1 : keyB n = true := by simpa using h1
    have := of_keyB h1
    by_cases h2 : 16384 < T.size
    · rw [if_pos h2] at h
      simp only [Prod.mk.injEq] at h
      obtain ⟨⟨rfl, rfl⟩, _⟩ := h
      omega
    · rw [if_neg h2] at h
      simp only [Prod.mk.injEq] at h
      obtain ⟨⟨rfl, rfl⟩, _⟩ := h
      omega

end Go.Proofs.Ytapmdneepinbgaa.Sm
