/-
  Devices: plain mathematics. No program is named here.
-/
import Derived.Test.YthdkidiemhfffaaKit
namespace Go.Proofs.Ythdkidiemhfffaa.Dv

/-- a device -/
structure D where
  size : Int
  blocks : List ByteArray
  torn : List Int
  bad : List Int
  fuse : Int
  down : Bool
deriving DecidableEq

/-- what is answered with an error -/
def none' : D := ⟨0, [], [], [], 0, false⟩

/-- strictly ascending numbers of blocks -/
structure Nums (l : List Int) (n : Nat) : Prop where
  rng : ∀ x ∈ l, 0 ≤ x ∧ x < (n : Int)
  asc : l.Pairwise (· < ·)

open Classical in
noncomputable def numsB (l : List Int) (n : Nat) : Bool := decide (Nums l n)
theorem numsB_true {l : List Int} {n : Nat} : numsB l n = true ↔ Nums l n := by unfold numsB; simp
theorem numsB_false {l : List Int} {n : Nat} : numsB l n = false ↔ ¬ Nums l n := by unfold numsB; simp

/-- a valid device -/
structure Ok (d : D) : Prop where
  s0 : 16 ≤ d.size
  s1 : d.size ≤ 64
  n0 : 1 ≤ d.blocks.length
  n1 : d.blocks.length ≤ 512
  t : Nums d.torn d.blocks.length
  b : Nums d.bad d.blocks.length
  f0 : 0 ≤ d.fuse
  f1 : d.fuse ≤ 1048576
  le : ∀ i (h : i < d.blocks.length), (d.blocks[i].size : Int) ≤ d.size
  em : ∀ i (h : i < d.blocks.length), (i : Int) ∈ d.torn ∨ (i : Int) ∈ d.bad → d.blocks[i] = ByteArray.empty

open Classical in
noncomputable def chk (d : D) : Int := if Ok d then 0 else 2
theorem chk_zero {d : D} : chk d = 0 ↔ Ok d := by
  unfold chk; split <;> simp_all
theorem chk_two {d : D} (h : ¬ Ok d) : chk d = 2 := by unfold chk; rw [if_neg h]
theorem chk_ok {d : D} (h : Ok d) : chk d = 0 := chk_zero.2 h
theorem chk_is (d : D) : chk d = 0 ∨ chk d = 2 := by
  unfold chk; split
  · exact .inl rfl
  · exact .inr rfl

/-- a list without a number, with one -/
def del (l : List Int) (n : Int) : List Int := l.filter fun x => decide (x ≠ n)
def ins (l : List Int) (n : Int) : List Int := (l.filter fun x => decide (x < n)) ++ n :: (l.filter fun x => decide (n < x))

theorem mem_del {l : List Int} {n x : Int} : x ∈ del l n ↔ x ∈ l ∧ x ≠ n := by simp [del]
theorem mem_ins {l : List Int} {n x : Int} : x ∈ ins l n ↔ x ∈ l ∨ x = n := by
  simp only [ins, List.mem_append, List.mem_cons, List.mem_filter, decide_eq_true_eq]
  constructor
  · rintro (⟨h, _⟩ | h | ⟨h, _⟩)
    · exact .inl h
    · exact .inr h
    · exact .inl h
  · rintro (h | h)
    · rcases Int.lt_trichotomy x n with h2 | h2 | h2
      · exact .inl ⟨h, h2⟩
      · exact .inr (.inl h2)
      · exact .inr (.inr ⟨h, h2⟩)
    · exact .inr (.inl h)
theorem Nums.nil (n : Nat) : Nums [] n := ⟨fun x h => absurd h (by simp), List.Pairwise.nil⟩
theorem Nums.del {l : List Int} {n : Nat} (h : Nums l n) (k : Int) : Nums (del l k) n :=
  ⟨fun x hx => h.rng x (mem_del.1 hx).1, h.asc.filter _⟩
theorem Nums.ins {l : List Int} {n : Nat} (h : Nums l n) {k : Int} (h0 : 0 ≤ k) (h1 : k < (n : Int)) : Nums (ins l k) n := by
  refine ⟨fun x hx => ?_, ?_⟩
  · rcases mem_ins.1 hx with hx | rfl
    · exact h.rng x hx
    · exact ⟨h0, h1⟩
  · unfold Dv.ins
    rw [List.pairwise_append]
    refine ⟨h.asc.filter _, ?_, ?_⟩
    · rw [List.pairwise_cons]
      exact ⟨fun y hy => by simpa using (List.mem_filter.1 hy).2, h.asc.filter _⟩
    · intro a ha b hb
      have ha2 : a < k := by simpa using (List.mem_filter.1 ha).2
      rcases List.mem_cons.1 hb with rfl | hb
      · exact ha2
      · have hb2 : k < b := by simpa using (List.mem_filter.1 hb).2
        omega
/-- strictly ascending numbers below n are at most n -/
theorem asc_len : ∀ (n : Nat) (l : List Int), (∀ x ∈ l, 0 ≤ x ∧ x < (n : Int)) → l.Pairwise (· < ·) → l.length ≤ n
  | 0, l, h, _ => by
    match l with
    | [] => exact Nat.zero_le _
    | x :: r => have := h x (by simp); omega
  | n + 1, l, h, hp => by
    rcases List.eq_nil_or_concat l with rfl | ⟨r, x, rfl⟩
    · exact Nat.zero_le _
    · simp only [List.concat_eq_append] at h hp ⊢
      rw [List.length_append]
      rw [List.pairwise_append] at hp
      have hx := h x (by simp)
      have := asc_len n r (fun y hy => by
        have h1 := h y (by simp [hy])
        have h2 := hp.2.2 y hy x (by simp)
        omega) hp.1
      simp; omega
theorem Nums.len {l : List Int} {n : Nat} (h : Nums l n) : l.length ≤ n := asc_len n l h.rng h.asc

/-- the reference's way to put a number into a list -/
theorem ins_way {l : List Int} (h : l.Pairwise (· < ·)) (n : Int) : (del l n).takeWhile (fun x => decide (x < n)) ++ n :: (del l n).dropWhile (fun x => decide (x < n)) = ins l n := by
  have key : ∀ l : List Int, l.Pairwise (· < ·) → (del l n).takeWhile (fun x => decide (x < n)) = l.filter (fun x => decide (x < n)) ∧ (del l n).dropWhile (fun x => decide (x < n)) = l.filter (fun x => decide (n < x)) := by
    intro l
    induction l with
    | nil => intro _; simp [del]
    | cons a r ih =>
      intro h
      rw [List.pairwise_cons] at h
      obtain ⟨i1, i2⟩ := ih h.2
      rcases Int.lt_trichotomy a n with h2 | h2 | h2
      · have hne : a ≠ n := by omega
        have e1 : del (a :: r) n = a :: del r n := by simp [del, hne]
        rw [e1]
        simp only [List.takeWhile_cons, List.dropWhile_cons, List.filter_cons, h2, decide_true, if_true, i1, i2]
        simp; omega
      · subst h2
        have e1 : del (a :: r) a = del r a := by simp [del]
        have e2 : r.filter (fun x => decide (x < a)) = [] := by
          rw [List.filter_eq_nil_iff]; intro x hx; have := h.1 x hx; simp; omega
        rw [e1, i1, i2]
        simp [e2]
      · have hne : a ≠ n := by omega
        have e1 : del (a :: r) n = a :: del r n := by simp [del, hne]
        have e2 : r.filter (fun x => decide (x < n)) = [] := by
          rw [List.filter_eq_nil_iff]; intro x hx; have := h.1 x hx; simp; omega
        have e3 : del r n = r := by
          unfold del; rw [List.filter_eq_self]; intro x hx; have := h.1 x hx; simp; omega
        have e4 : r.filter (fun x => decide (n < x)) = r := by
          rw [List.filter_eq_self]; intro x hx; have := h.1 x hx; simp; omega
        have e5 : decide (a < n) = false := by simp; omega
        have e6 : decide (n < a) = true := by simp; omega
        rw [e1, e3]
        simp only [List.takeWhile_cons, List.dropWhile_cons, List.filter_cons, e5, e6, if_true, e2, e4]
        simp
  obtain ⟨h1, h2⟩ := key l h
  rw [h1, h2]
  rfl

noncomputable def read (d : D) (n : Int) : ByteArray × Int :=
  if chk d ≠ 0 then (ByteArray.empty, 2) else if d.down = true then (ByteArray.empty, 11) else if n < 0 ∨ (d.blocks.length : Int) ≤ n then (ByteArray.empty, 1) else
    if n ∈ d.bad then (ByteArray.empty, 12) else if n ∈ d.torn then (ByteArray.empty, 13) else (d.blocks.getD n.toNat ByteArray.empty, 0)
/-- what a write does that has no error -/
def put (d : D) (n : Int) (s : ByteArray) : D := ⟨d.size, d.blocks.set n.toNat s, del d.torn n, d.bad, if 0 < d.fuse then d.fuse - 1 else d.fuse, false⟩
def tear (d : D) (n : Int) : D := ⟨d.size, d.blocks.set n.toNat ByteArray.empty, ins d.torn n, d.bad, 0, true⟩
noncomputable def write (d : D) (n : Int) (s : ByteArray) : D × Int :=
  if chk d ≠ 0 then (none', 2) else if d.down = true then (none', 11) else if n < 0 ∨ (d.blocks.length : Int) ≤ n then (none', 1) else
    if d.size < (s.size : Int) then (none', 4) else if n ∈ d.bad then (none', 12) else if d.fuse = 1 then (tear d n, 11) else (put d n s, 0)
noncomputable def arm (d : D) (f : Int) : D × Int :=
  if chk d ≠ 0 then (none', 2) else if f < 0 ∨ 1048576 < f then (none', 1) else (⟨d.size, d.blocks, d.torn, d.bad, f, d.down⟩, 0)
noncomputable def start (d : D) : D × Int :=
  if chk d ≠ 0 then (none', 2) else (⟨d.size, d.blocks, d.torn, d.bad, if d.down = true then 0 else d.fuse, false⟩, 0)
def spoil (d : D) (n : Int) : D := ⟨d.size, d.blocks.set n.toNat ByteArray.empty, del d.torn n, ins d.bad n, d.fuse, d.down⟩
noncomputable def fail (d : D) (n : Int) : D × Int :=
  if chk d ≠ 0 then (none', 2) else if n < 0 ∨ (d.blocks.length : Int) ≤ n then (none', 1) else (spoil d n, 0)
def new (size blocks : Int) : D × Int :=
  if size < 16 ∨ 64 < size ∨ blocks < 1 ∨ 512 < blocks then (none', 1) else (⟨size, List.replicate blocks.toNat ByteArray.empty, [], [], 0, false⟩, 0)

theorem Ok.put {d : D} (h : Ok d) {n : Int} {s : ByteArray} (h0 : 0 ≤ n) (h1 : n < d.blocks.length) (hs : (s.size : Int) ≤ d.size) (hb : n ∉ d.bad) : Ok (put d n s) := by
  have hf0 := h.f0
  have hf1 := h.f1
  refine ⟨h.s0, h.s1, by simpa [Dv.put] using h.n0, by simpa [Dv.put] using h.n1, by simpa [Dv.put] using h.t.del n, by simpa [Dv.put] using h.b, by simp only [Dv.put]; split <;> omega, by simp only [Dv.put]; split <;> omega, ?_, ?_⟩
  · intro i hi
    simp only [Dv.put, List.length_set] at hi
    simp only [Dv.put, List.getElem_set]
    split
    · exact hs
    · exact h.le i hi
  · intro i hi
    simp only [Dv.put, List.length_set] at hi
    simp only [Dv.put, List.getElem_set]
    intro hm
    have hne : (i : Int) ≠ n := by
      rintro rfl
      rcases hm with hm | hm
      · exact (mem_del.1 hm).2 rfl
      · exact hb hm
    rw [if_neg (by omega)]
    exact h.em i hi (hm.imp (fun hm => (mem_del.1 hm).1) id)
theorem Ok.tear {d : D} (h : Ok d) {n : Int} (h0 : 0 ≤ n) (h1 : n < d.blocks.length) : Ok (tear d n) := by
  have hs0 := h.s0
  refine ⟨h.s0, h.s1, by simpa [Dv.tear] using h.n0, by simpa [Dv.tear] using h.n1, by simpa [Dv.tear] using h.t.ins h0 h1, by simpa [Dv.tear] using h.b, by simp [Dv.tear], by simp [Dv.tear], ?_, ?_⟩
  · intro i hi
    simp only [Dv.tear, List.length_set] at hi
    simp only [Dv.tear, List.getElem_set]
    split
    · simp; omega
    · exact h.le i hi
  · intro i hi
    simp only [Dv.tear, List.length_set] at hi
    simp only [Dv.tear, List.getElem_set]
    intro hm
    split
    · rfl
    · refine h.em i hi (hm.imp (fun hm => ?_) id)
      rcases mem_ins.1 hm with hm | hm
      · exact hm
      · omega
theorem Ok.spoil {d : D} (h : Ok d) {n : Int} (h0 : 0 ≤ n) (h1 : n < d.blocks.length) : Ok (spoil d n) := by
  have hs0 := h.s0
  refine ⟨h.s0, h.s1, by simpa [Dv.spoil] using h.n0, by simpa [Dv.spoil] using h.n1, by simpa [Dv.spoil] using h.t.del n, by simpa [Dv.spoil] using h.b.ins h0 h1, h.f0, h.f1, ?_, ?_⟩
  · intro i hi
    simp only [Dv.spoil, List.length_set] at hi
    simp only [Dv.spoil, List.getElem_set]
    split
    · simp; omega
    · exact h.le i hi
  · intro i hi
    simp only [Dv.spoil, List.length_set] at hi
    simp only [Dv.spoil, List.getElem_set]
    intro hm
    split
    · rfl
    · refine h.em i hi (hm.imp (fun hm => (mem_del.1 hm).1) (fun hm => ?_))
      rcases mem_ins.1 hm with hm | hm
      · exact hm
      · omega
theorem Ok.new {size blocks : Int} (h : 16 ≤ size) (h2 : size ≤ 64) (h3 : 1 ≤ blocks) (h4 : blocks ≤ 512) : Ok ⟨size, List.replicate blocks.toNat ByteArray.empty, [], [], 0, false⟩ := by
  refine ⟨h, h2, by simp; omega, by simp; omega, Nums.nil _, Nums.nil _, by simp, by simp, ?_, ?_⟩
  · intro i hi
    simp; omega
  · intro i hi hm
    simp
theorem Ok.with' {d : D} (h : Ok d) {f : Int} (h0 : 0 ≤ f) (h1 : f ≤ 1048576) (b : Bool) : Ok ⟨d.size, d.blocks, d.torn, d.bad, f, b⟩ :=
  ⟨h.s0, h.s1, h.n0, h.n1, h.t, h.b, h0, h1, h.le, h.em⟩
end Go.Proofs.Ythdkidiemhfffaa.Dv
