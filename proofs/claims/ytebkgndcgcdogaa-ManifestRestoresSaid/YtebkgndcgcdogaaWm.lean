/-
  Plain arithmetic of layer 1 (wire): the bytes of a number, and what any bytes mean as a number. No program is named here.
-/
import Derived.WalkKit
namespace Go.Proofs.Ytebkgndcgcdogaa.Wm

def zz (n : Int) : Nat := if 0 ≤ n then (2 * n).toNat else (-2 * n - 1).toNat
def unzz (u : Nat) : Int := if u % 2 = 1 then -((u / 2 : Nat) : Int) - 1 else ((u / 2 : Nat) : Int)

theorem zz_lt (n : Int) (h0 : -9223372036854775808 ≤ n) (h1 : n ≤ 9223372036854775807) : zz n < 2 ^ 64 := by
  unfold zz; split <;> omega
theorem unzz_zz (n : Int) : unzz (zz n) = n := by
  unfold unzz zz; split <;> split <;> omega
theorem zz_unzz (u : Nat) : zz (unzz u) = u := by
  unfold unzz zz; split <;> split <;> omega
theorem unzz_bd (u : Nat) (h : u < 2 ^ 64) : -9223372036854775808 ≤ unzz u ∧ unzz u ≤ 9223372036854775807 := by
  unfold unzz; split <;> omega
theorem zz_nonneg (n : Int) (h : 0 ≤ n) : zz n = (2 * n).toNat := if_pos h
theorem zz_inj {a b : Int} (h : zz a = zz b) : a = b := by rw [← unzz_zz a, h, unzz_zz]

/-- The groups of u, the lowest first. -/
def enc : Nat → Nat → List UInt8
  | 0, u => [UInt8.ofNat u]
  | f + 1, u => if u < 128 then [UInt8.ofNat u] else UInt8.ofNat (u % 128 + 128) :: enc f (u / 128)
/-- The bytes of a number. -/
def encI (n : Int) : List UInt8 := enc 9 (zz n)

theorem enc_length (f u : Nat) : 1 ≤ (enc f u).length ∧ (enc f u).length ≤ f + 1 := by
  induction f generalizing u with
  | zero => simp [enc]
  | succ f ih =>
    unfold enc; split
    · simp
    · have := ih (u / 128); simp; omega
theorem encI_length (n : Int) : 1 ≤ (encI n).length ∧ (encI n).length ≤ 10 := enc_length 9 _
theorem encI_ne (n : Int) : encI n ≠ [] := fun h => by have := (encI_length n).1; rw [h] at this; simp at this

/-- What bytes mean as a number, i groups having been read, of which the sum is u, at an index. -/
def D : List UInt8 → Nat → Nat → Nat → Int × Int × Int
  | [], _, _, _ => (0, 0, 3)
  | b :: l, i, u, k =>
    if i = 9 ∧ 1 < b.toNat then (0, 0, 2)
    else if 128 ≤ b.toNat then D l (i + 1) (u + (b.toNat - 128) * 2 ^ (7 * i)) (k + 1)
    else if b.toNat = 0 ∧ 0 < i then (0, 0, 2)
    else (unzz (u + b.toNat * 2 ^ (7 * i)), (k : Int) + 1, 0)

/-- Int of chapter 1: the number, the index behind it, the error. -/
def int (s : List UInt8) (k : Int) : Int × Int × Int :=
  if k < 0 ∨ (s.length : Int) < k then (0, 0, 1) else D (s.drop k.toNat) 0 0 k.toNat

theorem ofNat_toNat {u : Nat} (h : u < 256) : (UInt8.ofNat u).toNat = u := by
  simp [UInt8.toNat_ofNat']; omega

theorem pow7 (i : Nat) : 2 ^ (7 * (i + 1)) = 128 * 2 ^ (7 * i) := by
  rw [Nat.mul_add, Nat.pow_add, Nat.mul_comm]

/-- what was put is read back -/
theorem D_enc (f : Nat) : ∀ (u i acc k : Nat) (r : List UInt8), i + f = 9 → u * 2 ^ (7 * i) < 2 ^ 64 → (0 < i → 0 < u) →
    D (enc f u ++ r) i acc k = (unzz (acc + u * 2 ^ (7 * i)), (k : Int) + (enc f u).length, 0) := by
  induction f with
  | zero =>
    intro u i acc k r hi hu hp
    have hi9 : i = 9 := by omega
    have hu1 : u < 2 := by
      have h63 : 2 ^ (7 * i) = 2 ^ 63 := by rw [hi9]
      rw [h63] at hu
      omega
    have hu0 := hp (by omega)
    obtain rfl : u = 1 := by omega
    have e : (UInt8.ofNat 1).toNat = 1 := by decide
    clear hu
    simp only [enc, List.singleton_append, D, e, List.length_singleton]
    have c1 : ¬ (i = 9 ∧ 1 < 1) := by omega
    have c2 : ¬ (128 ≤ 1) := by omega
    have c3 : ¬ (1 = 0 ∧ 0 < i) := by omega
    rw [if_neg c1, if_neg c2, if_neg c3]
    simp
  | succ f ih =>
    intro u i acc k r hi hu hp
    unfold enc
    split
    · rename_i h
      have e := ofNat_toNat (u := u) (by omega)
      simp only [List.singleton_append, D, e]
      rw [if_neg (by omega), if_neg (by omega), if_neg (by omega)]
      simp
    · rename_i h
      have e := ofNat_toNat (u := u % 128 + 128) (by omega)
      simp only [List.cons_append, D, e]
      rw [if_neg (by omega), if_pos (by omega)]
      have hq : u / 128 * 2 ^ (7 * (i + 1)) + u % 128 * 2 ^ (7 * i) = u * 2 ^ (7 * i) := by
        rw [pow7, ← Nat.mul_assoc, ← Nat.add_mul]
        congr 1
        omega
      rw [ih (u / 128) (i + 1) _ (k + 1) r (by omega) (by omega) (by intro; omega)]
      have hz : u % 128 + 128 - 128 = u % 128 := by omega
      rw [hz]
      refine Prod.ext ?_ (Prod.ext ?_ rfl)
      · exact congrArg unzz (by omega)
      · simp
        omega

theorem int_enc (a : List UInt8) (n : Int) (r : List UInt8) (h0 : -9223372036854775808 ≤ n) (h1 : n ≤ 9223372036854775807) :
    int (a ++ (encI n ++ r)) a.length = (n, (a.length : Int) + (encI n).length, 0) := by
  unfold int
  rw [if_neg (by simp; omega)]
  simp only [Int.toNat_natCast, List.drop_left]
  rw [encI, D_enc 9 (zz n) 0 0 a.length r (by omega) (by simpa using zz_lt n h0 h1) (by omega)]
  simp [unzz_zz]

/-- bytes that are read are those of their number -/
theorem D_canon (l : List UInt8) : ∀ (i acc k : Nat) (x q : Int), i ≤ 9 → D l i acc k = (x, q, 0) →
    ∃ u r, l = enc (9 - i) u ++ r ∧ x = unzz (acc + u * 2 ^ (7 * i)) ∧ q = (k : Int) + (enc (9 - i) u).length ∧ u * 2 ^ (7 * i) < 2 ^ 64 ∧ (0 < i → 0 < u) := by
  induction l with
  | nil => intro i acc k x q _ h; simp [D] at h
  | cons b l ih =>
    intro i acc k x q hi h
    simp only [D] at h
    have hb := b.toNat_lt
    have hbb : UInt8.ofNat b.toNat = b := by simp
    by_cases h1 : i = 9 ∧ 1 < b.toNat
    · rw [if_pos h1] at h; simp at h
    rw [if_neg h1] at h
    by_cases h2 : 128 ≤ b.toNat
    · rw [if_pos h2] at h
      obtain ⟨u, r, rfl, hx, hq, hlt, hp⟩ := ih (i + 1) _ (k + 1) x q (by omega) h
      have hp := hp (by omega)
      obtain ⟨f, hf⟩ : ∃ f, 9 - i = f + 1 := ⟨9 - i - 1, by omega⟩
      have hf' : 9 - (i + 1) = f := by omega
      rw [hf'] at hq ⊢
      have hq' : (u * 128 + (b.toNat - 128)) * 2 ^ (7 * i) = u * 2 ^ (7 * (i + 1)) + (b.toNat - 128) * 2 ^ (7 * i) := by
        rw [pow7, ← Nat.mul_assoc, ← Nat.add_mul]
      refine ⟨u * 128 + (b.toNat - 128), r, ?_, ?_, ?_, ?_, ?_⟩
      · rw [hf, enc, if_neg (by omega)]
        have e1 : (u * 128 + (b.toNat - 128)) / 128 = u := by omega
        have e2 : (u * 128 + (b.toNat - 128)) % 128 + 128 = b.toNat := by omega
        rw [e1, e2, hbb, List.cons_append]
      · rw [hx, hq']
        exact congrArg unzz (by omega)
      · rw [hq, hf, enc, if_neg (by omega)]
        have e1 : (u * 128 + (b.toNat - 128)) / 128 = u := by omega
        rw [e1]
        simp
        omega
      · -- u * 128^(i+1) + low < 2^64
        rw [hq']
        have hi8 : i ≤ 8 := by omega
        have hm : (b.toNat - 128) * 2 ^ (7 * i) < 128 * 2 ^ (7 * i) := Nat.mul_lt_mul_of_pos_right (by omega) (Nat.two_pow_pos _)
        rw [← pow7] at hm
        have hd : 2 ^ 64 = 2 ^ (64 - 7 * (i + 1)) * 2 ^ (7 * (i + 1)) := by
          rw [← Nat.pow_add]; congr 1; omega
        rw [hd] at hlt ⊢
        have hlt' := Nat.lt_of_mul_lt_mul_right hlt
        have := Nat.mul_le_mul_right (2 ^ (7 * (i + 1))) (Nat.succ_le_of_lt hlt')
        rw [Nat.succ_mul] at this
        omega
      · intro; omega
    · rw [if_neg h2] at h
      by_cases h3 : b.toNat = 0 ∧ 0 < i
      · rw [if_pos h3] at h; simp at h
      rw [if_neg h3] at h
      simp only [Prod.mk.injEq, and_true] at h
      have he : enc (9 - i) b.toNat = [b] := by
        obtain hz | ⟨f, hf⟩ : 9 - i = 0 ∨ ∃ f, 9 - i = f + 1 := by
          rcases Nat.eq_zero_or_pos (9 - i) with h | h
          · exact .inl h
          · exact .inr ⟨9 - i - 1, by omega⟩
        · rw [hz, enc, hbb]
        · rw [hf, enc, if_pos (by omega), hbb]
      refine ⟨b.toNat, l, by rw [he]; rfl, h.1.symm, ?_, ?_, by intro; omega⟩
      · rw [← h.2, he]; simp
      · rcases Nat.lt_or_ge i 9 with hi9 | hi9
        · have : b.toNat * 2 ^ (7 * i) < 128 * 2 ^ (7 * i) := Nat.mul_lt_mul_of_pos_right (by omega) (Nat.two_pow_pos _)
          rw [← pow7] at this
          exact Nat.lt_of_lt_of_le this (Nat.pow_le_pow_right (by decide) (by omega))
        · obtain rfl : i = 9 := by omega
          have : b.toNat ≤ 1 := by omega
          show b.toNat * 2 ^ 63 < 2 ^ 64
          omega

theorem int_canon {s : List UInt8} {k x q : Int} (h : int s k = (x, q, 0)) :
    0 ≤ k ∧ k ≤ s.length ∧ ∃ r, s.drop k.toNat = encI x ++ r ∧ q = k + (encI x).length ∧ -9223372036854775808 ≤ x ∧ x ≤ 9223372036854775807 := by
  unfold int at h
  by_cases hk : k < 0 ∨ (s.length : Int) < k
  · rw [if_pos hk] at h; simp at h
  rw [if_neg hk] at h
  obtain ⟨u, r, hl, hx, hq, hu, _⟩ := D_canon _ 0 0 k.toNat x q (by omega) h
  simp only [Nat.mul_zero, Nat.pow_zero, Nat.mul_one, Nat.zero_add, Nat.sub_zero] at hx hu hl hq
  have hz : zz x = u := by rw [hx, zz_unzz]
  refine ⟨by omega, by omega, r, ?_, ?_, ?_⟩
  · rw [hl, encI, hz]
  · rw [hq, encI, hz]; omega
  · rw [hx]; exact unzz_bd u hu

/-- the bytes of no number begin with those of another one -/
theorem encI_prefix {m n : Int} {r : List UInt8} (hm0 : -9223372036854775808 ≤ m) (hm1 : m ≤ 9223372036854775807) (hn0 : -9223372036854775808 ≤ n) (hn1 : n ≤ 9223372036854775807)
    (h : encI n = encI m ++ r) : m = n := by
  have a := int_enc [] n [] hn0 hn1
  have b := int_enc [] m r hm0 hm1
  simp only [List.nil_append, List.append_nil] at a b
  rw [h, b] at a
  exact (Prod.mk.inj a).1

/-- what is cut short is ErrShort -/
theorem D_short (f : Nat) : ∀ (u i acc k c : Nat), i + f = 9 → u * 2 ^ (7 * i) < 2 ^ 64 → c < (enc f u).length → D ((enc f u).take c) i acc k = (0, 0, 3) := by
  induction f with
  | zero =>
    intro u i acc k c hi hu hc
    simp [enc] at hc
    subst hc
    simp [D]
  | succ f ih =>
    intro u i acc k c hi hu hc
    cases c with
    | zero => simp [D]
    | succ c =>
      unfold enc at hc ⊢
      split
      · rename_i h; rw [if_pos h] at hc; simp at hc
      · rename_i h
        rw [if_neg h] at hc
        have e := ofNat_toNat (u := u % 128 + 128) (by omega)
        simp only [List.take_succ_cons, D, e]
        rw [if_neg (by omega), if_pos (by omega)]
        have hq : u / 128 * 2 ^ (7 * (i + 1)) + u % 128 * 2 ^ (7 * i) = u * 2 ^ (7 * i) := by
          rw [pow7, ← Nat.mul_assoc, ← Nat.add_mul]
          congr 1
          omega
        exact ih (u / 128) (i + 1) _ (k + 1) c (by omega) (by omega) (by simpa using hc)

theorem int_short (n : Int) (c : Nat) (h0 : -9223372036854775808 ≤ n) (h1 : n ≤ 9223372036854775807) (hc : c < (encI n).length) : int ((encI n).take c) 0 = (0, 0, 3) := by
  unfold int
  rw [if_neg (by omega)]
  simp only [Int.toNat_zero, List.drop_zero]
  exact D_short 9 (zz n) 0 0 0 c (by omega) (by simpa using zz_lt n h0 h1) hc

end Go.Proofs.Ytebkgndcgcdogaa.Wm
