/-
  Plain arithmetic of polynomial digests. No program is named here.
-/
namespace Go.Proofs.Ytmdakplaaehmnaa.Dm

/-- one step: d becomes (d * x + c) modulo the prime -/
def st (d x c : Int) : Int := (d * x + c) % 2147483647
def sumFrom (d : Int) (l : List UInt8) : Int := l.foldl (fun d b => st d 1000003 (b.toNat + 1)) d
def sum (l : List UInt8) : Int := sumFrom 1 l
/-- powers -/
def pw (x : Int) (n : Nat) : Int := x ^ n % 2147483647
def pow (n : Int) : Int := pw 1000003 n.toNat
def join (a b n : Int) : Int := (a % 2147483647 * pow n + b % 2147483647 - pow n) % 2147483647
/-- the value at a point below the prime -/
def at' (x : Int) : List UInt8 → Int
  | [] => 0
  | b :: l => st (at' x l) x (b.toNat + 1)
def atx (l : List UInt8) (x : Int) : Int := at' (x % 2147483647) l

theorem st_lt (d x c : Int) : 0 ≤ st d x c ∧ st d x c < 2147483647 := by unfold st; omega
theorem sumFrom_lt (l : List UInt8) : ∀ d, 0 ≤ d → d < 2147483647 → 0 ≤ sumFrom d l ∧ sumFrom d l < 2147483647 := by
  induction l with
  | nil => intro d h0 h1; exact ⟨h0, h1⟩
  | cons b l ih => intro d _ _; exact ih _ (st_lt _ _ _).1 (st_lt _ _ _).2
theorem sum_lt (l : List UInt8) : 0 ≤ sum l ∧ sum l < 2147483647 := sumFrom_lt l 1 (by decide) (by decide)
theorem pw_lt (x : Int) (n : Nat) : 0 ≤ pw x n ∧ pw x n < 2147483647 := by unfold pw; omega
theorem pow_lt (n : Int) : 0 ≤ pow n ∧ pow n < 2147483647 := pw_lt _ _
theorem join_lt (a b n : Int) : 0 ≤ join a b n ∧ join a b n < 2147483647 := by unfold join; omega
theorem at'_lt (x : Int) (l : List UInt8) : 0 ≤ at' x l ∧ at' x l < 2147483647 := by
  cases l with
  | nil => exact ⟨Int.le_refl _, by show (0 : Int) < _; decide⟩
  | cons b l => exact st_lt _ _ _
theorem atx_lt (l : List UInt8) (x : Int) : 0 ≤ atx l x ∧ atx l x < 2147483647 := at'_lt _ _

/-- congruence -/
theorem cg_of {a b : Int} (k : Int) (h : a = b + 2147483647 * k) : a % 2147483647 = b % 2147483647 := by
  rw [h, Int.add_mul_emod_self_left]
theorem cg_mul {a b c d : Int} (h : a % 2147483647 = b % 2147483647) (h2 : c % 2147483647 = d % 2147483647) : (a * c) % 2147483647 = (b * d) % 2147483647 := by
  rw [Int.mul_emod, h, h2, ← Int.mul_emod]
theorem cg_add {a b c d : Int} (h : a % 2147483647 = b % 2147483647) (h2 : c % 2147483647 = d % 2147483647) : (a + c) % 2147483647 = (b + d) % 2147483647 := by
  rw [Int.add_emod, h, h2, ← Int.add_emod]
theorem cg_sub {a b c d : Int} (h : a % 2147483647 = b % 2147483647) (h2 : c % 2147483647 = d % 2147483647) : (a - c) % 2147483647 = (b - d) % 2147483647 := by
  rw [Int.sub_emod, h, h2, ← Int.sub_emod]
theorem cg_mod (a : Int) : a % 2147483647 % 2147483647 = a % 2147483647 := Int.emod_emod_of_dvd a (Int.dvd_refl _)

theorem pw_zero (x : Int) : pw x 0 = 1 := by unfold pw; rw [Int.pow_zero]; rfl
theorem pw_one (x : Int) : pw x 1 = x % 2147483647 := by unfold pw; rw [Int.pow_succ]; simp
theorem pw_add (x : Int) (m n : Nat) : pw x (m + n) = pw x m * pw x n % 2147483647 := by
  unfold pw; rw [Int.pow_add]; exact (cg_mul (cg_mod _) (cg_mod _)).symm
theorem pw_succ (x : Int) (n : Nat) : pw x (n + 1) = pw x n * x % 2147483647 := by
  unfold pw; rw [Int.pow_succ]; exact (cg_mul (cg_mod _) rfl).symm
theorem pw_cg {x y : Int} (h : x % 2147483647 = y % 2147483647) (n : Nat) : pw x n = pw y n := by
  induction n with
  | zero => rw [pw_zero, pw_zero]
  | succ n ih => rw [pw_succ, pw_succ, ih]; exact cg_mul rfl h
theorem pw_mul (x : Int) (m n : Nat) : pw x (m * n) = pw (pw x m) n := by
  induction n with
  | zero => rw [Nat.mul_zero, pw_zero, pw_zero]
  | succ n ih => rw [Nat.mul_succ, pw_add, ih, pw_succ]
theorem pw_sq (x : Int) (n : Nat) : pw (x * x % 2147483647) n = pw x (2 * n) := by
  rw [pw_mul]; exact pw_cg (by rw [cg_mod, show (2 : Nat) = 1 + 1 from rfl, pw_add, pw_one, cg_mod]; exact cg_mul (cg_mod _).symm (cg_mod _).symm) n

/-- the loop of squares: q times x to the power of n -/
def fin (q x : Int) (n : Nat) : Int := q * pw x n % 2147483647
theorem fin_odd (q x : Int) (n : Nat) (h : n % 2 = 1) : fin (q * x % 2147483647) (x * x % 2147483647) (n / 2) = fin q x n := by
  unfold fin
  rw [pw_sq, show pw x n = pw x (2 * (n / 2) + 1) from by congr 1; omega, pw_succ]
  calc _ = (q * x) * pw x (2 * (n / 2)) % 2147483647 := cg_mul (cg_mod _) rfl
    _ = q * (pw x (2 * (n / 2)) * x) % 2147483647 := by congr 1; rw [Int.mul_assoc, Int.mul_comm x]
    _ = _ := cg_mul rfl (cg_mod _).symm
theorem fin_even (q x : Int) (n : Nat) (h : n % 2 = 0) : fin q (x * x % 2147483647) (n / 2) = fin q x n := by
  unfold fin
  rw [pw_sq, show pw x n = pw x (2 * (n / 2)) from by congr 1; omega]
theorem fin_zero (q x : Int) (h0 : 0 ≤ q) (h1 : q < 2147483647) : fin q x 0 = q := by
  unfold fin; rw [pw_zero, Int.mul_one]; exact Int.emod_eq_of_lt h0 h1
theorem fin_start (n : Nat) : fin 1 1000003 n = pw 1000003 n := by
  unfold fin; rw [Int.one_mul]; exact Int.emod_eq_of_lt (pw_lt _ _).1 (pw_lt _ _).2

/-! joins -/
theorem sumFrom_app (d : Int) (s t : List UInt8) : sumFrom d (s ++ t) = sumFrom (sumFrom d s) t := List.foldl_append
/-- what the start does -/
theorem sumFrom_cg (t : List UInt8) : ∀ a b : Int, (sumFrom a t - sumFrom b t) % 2147483647 = (a - b) * pw 1000003 t.length % 2147483647 := by
  induction t with
  | nil => intro a b; simp [sumFrom, pw_zero]
  | cons c t ih =>
    intro a b
    have h := ih (st a 1000003 (c.toNat + 1)) (st b 1000003 (c.toNat + 1))
    show (sumFrom (st a 1000003 (c.toNat + 1)) t - sumFrom (st b 1000003 (c.toNat + 1)) t) % 2147483647 = _
    rw [h, List.length_cons, pw_succ]
    have h1 : (st a 1000003 (c.toNat + 1) - st b 1000003 (c.toNat + 1)) % 2147483647 = ((a - b) * 1000003) % 2147483647 := by
      unfold st; omega
    calc _ = (a - b) * 1000003 * pw 1000003 t.length % 2147483647 := cg_mul h1 rfl
      _ = (a - b) * (pw 1000003 t.length * 1000003) % 2147483647 := by congr 1; rw [Int.mul_assoc, Int.mul_comm 1000003]
      _ = _ := cg_mul rfl (cg_mod _).symm
theorem pow_len (n : Nat) : pow (n : Int) = pw 1000003 n := by unfold pow; rw [Int.toNat_natCast]
theorem join_cg {a a' b b' : Int} (n : Int) (h : a % 2147483647 = a' % 2147483647) (h2 : b % 2147483647 = b' % 2147483647) : join a b n = join a' b' n := by
  unfold join; rw [h, h2]
theorem join_eq (a b n : Int) : join a b n = ((a - 1) * pow n + b) % 2147483647 := by
  unfold join
  have h : (a - 1) * pow n + b = a * pow n + b - pow n := by rw [Int.sub_mul]; omega
  rw [h]
  exact cg_sub (cg_add (cg_mul (cg_mod _) rfl) (cg_mod _)) rfl
/-- the digest of two texts, one behind the other -/
theorem sum_join (s t : List UInt8) : join (sum s) (sum t) t.length = sum (s ++ t) := by
  have h := sumFrom_cg t (sum s) 1
  have h2 := sumFrom_app 1 s t
  have l1 := sum_lt (s ++ t)
  have e : sum (s ++ t) = sumFrom (sum s) t := h2
  rw [join_eq, pow_len]
  have l2 : sumFrom (sum s) t % 2147483647 = sumFrom (sum s) t := by rw [← e]; exact Int.emod_eq_of_lt l1.1 l1.2
  rw [e, ← l2]
  have h3 : ((sum s - 1) * pw 1000003 t.length + sum t) % 2147483647 = (sumFrom (sum s) t - sumFrom 1 t + sum t) % 2147483647 := cg_add h.symm rfl
  rw [h3]
  congr 1
  show sumFrom (sum s) t - sumFrom 1 t + sumFrom 1 t = _
  omega
theorem join_one (a : Int) (h0 : 0 ≤ a) (h1 : a < 2147483647) : join a 1 0 = a := by
  rw [join_eq]
  have : pow 0 = 1 := rfl
  rw [this, show (a - 1) * 1 + 1 = a from by omega]
  exact Int.emod_eq_of_lt h0 h1

/-! powers by Fermat: computed -/
theorem pw_full : pw 1000003 2147483646 = 1 := by
  have h : ∀ (k : Nat) (q x : Int), fin 1 1000003 2147483646 = fin q x k → fin 1 1000003 2147483646 = (if k % 2 = 1 then fin (q * x % 2147483647) (x * x % 2147483647) (k / 2) else fin q (x * x % 2147483647) (k / 2)) := by
    intro k q x e
    rw [e]
    by_cases hk : k % 2 = 1
    · rw [if_pos hk, fin_odd _ _ _ hk]
    · rw [if_neg hk, fin_even _ _ _ (by omega)]
  rw [← fin_start]
  iterate 31 (replace h := h)
  have g := h _ _ _ rfl
  iterate 30 (replace g := h _ _ _ (by simpa using g))
  simpa [fin_zero] using g
theorem pow_full (m : Nat) : pow ((m : Int) + 2147483646) = pow m := by
  unfold pow
  rw [show ((m : Int) + 2147483646).toNat = m + 2147483646 from by omega, Int.toNat_natCast, pw_add, pw_full, Int.mul_one]
  exact Int.emod_eq_of_lt (pw_lt _ _).1 (pw_lt _ _).2
theorem pow_add (m n : Nat) : pow (m : Int) * pow (n : Int) % 2147483647 = pow ((m : Int) + n) := by
  unfold pow
  rw [show ((m : Int) + n).toNat = m + n from by omega, Int.toNat_natCast, Int.toNat_natCast, pw_add]

/-! the prime -/
/-- none of 2^k numbers from d on divides it -/
def free : Nat → Nat → Bool
  | 0, d => !(2147483647 % d == 0)
  | k + 1, d => free k d && free k (d + 2 ^ k)
theorem free_of : ∀ (k d e : Nat), free k d = true → d ≤ e → e < d + 2 ^ k → 2147483647 % e ≠ 0 := by
  intro k
  induction k with
  | zero => intro d e h h1 h2; obtain rfl : e = d := by simp at h2; omega
            simpa [free] using h
  | succ k ih =>
    intro d e h h1 h2
    simp only [free, Bool.and_eq_true] at h
    have e2 : 2 ^ (k + 1) = 2 ^ k + 2 ^ k := by omega
    by_cases hc : e < d + 2 ^ k
    · exact ih d e h.1 h1 hc
    · exact ih _ e h.2 (by omega) (by omega)
theorem free_all : free 16 2 = true := by decide +kernel
theorem no_div (e : Nat) (h0 : 2 ≤ e) (h1 : e < 65538) : 2147483647 % e ≠ 0 := free_of 16 2 e free_all h0 (by simpa using h1)
theorem cop (x : Nat) (h0 : 1 ≤ x) (h1 : x < 2147483647) : Nat.gcd x 2147483647 = 1 := by
  have hg1 : Nat.gcd x 2147483647 ∣ 2147483647 := Nat.gcd_dvd_right _ _
  have hg2 : Nat.gcd x 2147483647 ≤ x := Nat.gcd_le_left _ h0
  have hg0 : 0 < Nat.gcd x 2147483647 := Nat.gcd_pos_of_pos_left _ h0
  generalize Nat.gcd x 2147483647 = g at hg1 hg2 hg0
  obtain ⟨k, hk⟩ := hg1
  by_cases hg : g = 1
  · exact hg
  · exfalso
    by_cases hs : g < 65538
    · exact no_div g (by omega) hs (by rw [hk]; exact Nat.mul_mod_right _ _)
    · by_cases hk2 : k < 65538
      · have k0 : k ≠ 0 := fun h => by rw [h] at hk; simp at hk
        have k1 : k ≠ 1 := fun h => by rw [h] at hk; omega
        exact no_div k (by omega) hk2 (by rw [hk]; exact Nat.mul_mod_left _ _)
      · have := Nat.mul_le_mul (show 65538 ≤ g by omega) (show 65538 ≤ k by omega)
        omega
theorem cancel (x : Nat) (h0 : 1 ≤ x) (h1 : x < 2147483647) (v : Int) (h : v * x % 2147483647 = 0) : v % 2147483647 = 0 := by
  have hd : (2147483647 : Int) ∣ v * x := Int.dvd_of_emod_eq_zero h
  have hd2 : (2147483647 : Nat) ∣ v.natAbs * x := by
    have := Int.natAbs_dvd_natAbs.2 hd
    rwa [Int.natAbs_mul] at this
  have hd3 : (2147483647 : Nat) ∣ v.natAbs := Nat.Coprime.dvd_of_dvd_mul_right (by rw [Nat.Coprime, Nat.gcd_comm]; exact cop x h0 h1) hd2
  have : (2147483647 : Int) ∣ v := Int.natAbs_dvd_natAbs.1 hd3
  exact Int.emod_eq_zero_of_dvd this
theorem st_inj (x : Int) (h0 : 1 ≤ x) (h1 : x < 2147483647) {u v c : Int} (hu0 : 0 ≤ u) (hu : u < 2147483647) (hv0 : 0 ≤ v) (hv : v < 2147483647) (h : st u x c = st v x c) : u = v := by
  obtain ⟨x, rfl⟩ := Int.eq_ofNat_of_zero_le (show 0 ≤ x by omega)
  have hc : (u - v) * x % 2147483647 = 0 := by
    have := cg_sub (show (u * x + c) % 2147483647 = (v * x + c) % 2147483647 from h) (show (v * x + c) % 2147483647 = (v * x + c) % 2147483647 from rfl)
    rw [Int.sub_self, show u * (x : Int) + c - (v * x + c) = (u - v) * x from by rw [Int.sub_mul]; omega] at this
    simpa using this
  have := cancel x (by omega) (by omega) _ hc
  omega
theorem sumFrom_inj (l : List UInt8) : ∀ a b : Int, 0 ≤ a → a < 2147483647 → 0 ≤ b → b < 2147483647 → sumFrom a l = sumFrom b l → a = b := by
  induction l with
  | nil => intro a b _ _ _ _ h; exact h
  | cons c l ih =>
    intro a b a0 a1 b0 b1 h
    have := ih _ _ (st_lt _ _ _).1 (st_lt _ _ _).2 (st_lt _ _ _).1 (st_lt _ _ _).2 h
    exact st_inj 1000003 (by decide) (by decide) a0 a1 b0 b1 this
theorem byte_step (d x : Int) (b c : UInt8) (h : st d x (b.toNat + 1) = st d x (c.toNat + 1)) : b = c := by
  have h1 := b.toNat_lt
  have h2 := c.toNat_lt
  unfold st at h
  have : b.toNat = c.toNat := by omega
  exact UInt8.toNat_inj.1 this
theorem sum_set (l : List UInt8) (k : Nat) (hk : k < l.length) (b : UInt8) (h : sum l = sum (l.set k b)) : l[k] = b := by
  have e1 : l = l.take k ++ l[k] :: l.drop (k + 1) := by rw [List.getElem_cons_drop, List.take_append_drop]
  have e2 : l.set k b = l.take k ++ b :: l.drop (k + 1) := List.set_eq_take_append_cons_drop.trans (by rw [if_pos hk])
  rw [e2] at h
  unfold sum at h
  have h' := h
  rw [show sumFrom 1 l = sumFrom 1 (l.take k ++ l[k] :: l.drop (k + 1)) from by rw [← e1], sumFrom_app, sumFrom_app] at h'
  have := sumFrom_inj (l.drop (k + 1)) _ _ (st_lt _ _ _).1 (st_lt _ _ _).2 (st_lt _ _ _).1 (st_lt _ _ _).2 h'
  exact byte_step _ _ _ _ this
theorem at'_app (x : Int) (s t : List UInt8) : at' x (s ++ t) = (at' x s + pw x s.length * at' x t) % 2147483647 := by
  induction s with
  | nil =>
    have := at'_lt x t
    simp [at', pw_zero]; omega
  | cons b s ih =>
    show st (at' x (s ++ t)) x (b.toNat + 1) = (st (at' x s) x (b.toNat + 1) + pw x (s.length + 1) * at' x t) % 2147483647
    rw [ih, pw_succ]
    unfold st
    have h1 : (at' x s + pw x s.length * at' x t) % 2147483647 * x % 2147483647 = (at' x s * x + pw x s.length * x * at' x t) % 2147483647 := by
      rw [cg_mul (cg_mod _) (rfl : x % 2147483647 = x % 2147483647), Int.add_mul, Int.mul_assoc, Int.mul_comm (at' x t), ← Int.mul_assoc]
    have h2 : (pw x s.length * x % 2147483647 * at' x t) % 2147483647 = (pw x s.length * x * at' x t) % 2147483647 := cg_mul (cg_mod _) rfl
    generalize pw x s.length * x % 2147483647 * at' x t = Z at h2 ⊢
    generalize (at' x s + pw x s.length * at' x t) % 2147483647 * x = Y at h1 ⊢
    generalize pw x s.length * x * at' x t = V at h1 h2
    omega
theorem at'_inj (x : Int) (h0 : 1 ≤ x) (h1 : x < 2147483647) (p a b : List UInt8) (h : at' x (p ++ a) = at' x (p ++ b)) : at' x a = at' x b := by
  induction p with
  | nil => exact h
  | cons c p ih => exact ih (st_inj x h0 h1 (at'_lt _ _).1 (at'_lt _ _).2 (at'_lt _ _).1 (at'_lt _ _).2 h)
theorem at'_set (x : Int) (h0 : 1 ≤ x) (h1 : x < 2147483647) (l : List UInt8) (k : Nat) (hk : k < l.length) (b : UInt8) (h : at' x l = at' x (l.set k b)) : l[k] = b := by
  have e1 : l = l.take k ++ l[k] :: l.drop (k + 1) := by rw [List.getElem_cons_drop, List.take_append_drop]
  have e2 : l.set k b = l.take k ++ b :: l.drop (k + 1) := List.set_eq_take_append_cons_drop.trans (by rw [if_pos hk])
  rw [e2, show at' x l = at' x (l.take k ++ l[k] :: l.drop (k + 1)) from by rw [← e1]] at h
  exact byte_step _ _ _ _ (at'_inj x h0 h1 _ _ _ h)

/-! what loops keep -/
theorem sum_take (s : List UInt8) (k : Nat) (h : k < s.length) (d : Int) (hd : d = sum (s.take k)) : (d * 1000003 + (((s[k]).toNat : Int) + 1)) % 2147483647 = sum (s.take (k + 1)) := by
  rw [hd, List.take_succ_eq_append_getElem h]
  unfold sum
  rw [sumFrom_app]
  rfl
theorem at'_drop (x : Int) (s : List UInt8) (k : Nat) (h : k < s.length) : (at' x (s.drop (k + 1)) * x + (((s[k]).toNat : Int) + 1)) % 2147483647 = at' x (s.drop k) := by
  rw [List.drop_eq_getElem_cons h]
  rfl
end Go.Proofs.Ytmdakplaaehmnaa.Dm
