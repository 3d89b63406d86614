/-
  Contracts of the reference's PutText, PutList, Text, List, Same.
-/
import Derived.Test.YtapmdneepinbgaaWireC
namespace Go.Proofs.Ytapmdneepinbgaa
open Go.RowKit
set_option maxHeartbeats 1000000

/-- what the reference answers for the number of bytes -/
theorem Wm.len_of (s : List UInt8) (i m : Int) {x q r : Int} (h : Wm.int s i = (x, q, r)) :
    Wm.lenR s i m = if r ≠ 0 then (0, 0, r) else if x < 0 then (0, 0, 2) else if m < x then (0, 0, 4) else (x, q, r) := by
  unfold Wm.lenR; rw [h]

theorem rtext_any (s : ByteArray) (i m : Int) (w : World) (hs : s.size ≤ 9223372036854775000) :
    Calls Try.prog 40 #[.string s, .int .i64 i, .int .i64 m] w fun e w' => e = .returned (Wm.tval (Wm.text s.data.toList i m)) ∧ w = w' := by
  have hlen : s.data.toList.length = s.size := by simp
  rcases Wm.int_cases s.data.toList i with ⟨r, h0, hr⟩ | ⟨x, q, hr, hi0, hiq, hq, hx⟩
  · have hl := Wm.len_of s.data.toList i m hr
    rw [if_pos h0] at hl
    have HF := Lib.hid (show Wm.text s.data.toList i m = ([], 0, r) by unfold Wm.text; rw [hl]; simp [h0])
    have HR := Lib.hid hr
    have g0 : (r == 0) = false := by simpa using h0
    clear hr h0 hl hlen
    go_enter Try.func40, Try.ntmps40
    go_wp2_with fail
    refine (rint_any s i _ hs).mono ?_
    rintro e w' ⟨rfl, rfl⟩
    rw [HR.out]
    unfold Wm.val
    go_wp2_with fail
    go_ret3
    exact ⟨by rw [HF.out]; rfl, rfl⟩
  · have hl := Wm.len_of s.data.toList i m hr
    rw [if_neg (by simp)] at hl
    have HR := Lib.hid hr
    clear hr
    obtain ⟨Q, rfl⟩ := Int.eq_ofNat_of_zero_le (show 0 ≤ q by omega)
    rw [hlen] at hq
    by_cases h1 : x < 0
    · rw [if_pos h1] at hl
      have HF := Lib.hid (show Wm.text s.data.toList i m = ([], 0, 2) by unfold Wm.text; rw [hl]; simp)
      clear hl hlen
      go_enter Try.func40, Try.ntmps40
      go_wp2_with fail
      refine (rint_any s i _ hs).mono ?_
      rintro e w' ⟨rfl, rfl⟩
      rw [HR.out]
      unfold Wm.val
      go_wp2_with fail
      go_ret3
      exact ⟨by rw [HF.out]; rfl, rfl⟩
    · rw [if_neg h1] at hl
      obtain ⟨X, rfl⟩ := Int.eq_ofNat_of_zero_le (show 0 ≤ x by omega)
      by_cases h2 : m < (X : Int)
      · rw [if_pos h2] at hl
        have HF := Lib.hid (show Wm.text s.data.toList i m = ([], 0, 4) by unfold Wm.text; rw [hl]; simp)
        clear hl hlen
        go_enter Try.func40, Try.ntmps40
        go_wp2_with fail
        refine (rint_any s i _ hs).mono ?_
        rintro e w' ⟨rfl, rfl⟩
        rw [HR.out]
        unfold Wm.val
        go_wp2_with fail
        go_ret3
        exact ⟨by rw [HF.out]; rfl, rfl⟩
      · rw [if_neg h2] at hl
        by_cases hsh : s.size < Q + X
        · have HF := Lib.hid (show Wm.text s.data.toList i m = ([], 0, 3) by unfold Wm.text; rw [hl, hlen]; simp; omega)
          clear hl hlen
          go_enter Try.func40, Try.ntmps40
          go_wp2_with fail
          refine (rint_any s i _ hs).mono ?_
          rintro e w' ⟨rfl, rfl⟩
          rw [HR.out]
          unfold Wm.val
          go_wp2_with fail
          go_ret3
          exact ⟨by rw [HF.out]; rfl, rfl⟩
        · have hq2 : Q + X ≤ s.size := by omega
          have hq3 : (Q : Int) + (X : Int) ≤ (s.size : Int) := by omega
          have hq4 : (0 : Int) ≤ (Q : Int) := by omega
          have hq5 : (Q : Int) ≤ (Q : Int) + (X : Int) := by omega
          have HF := Lib.hid (show Wm.text s.data.toList i m = ((s.data.toList.drop Q).take X, (Q : Int) + X, 0) by unfold Wm.text; rw [hl, hlen]; simp; omega)
          clear hl hlen
          go_enter Try.func40, Try.ntmps40
          go_wp2_with fail
          refine (rint_any s i _ hs).mono ?_
          rintro e w' ⟨rfl, rfl⟩
          rw [HR.out]
          unfold Wm.val
          go_wp2_with fail
          go_ret3
          exact ⟨by rw [HF.out]; exact congrArg Ending.returned (by simp only [Wm.tval]; rw [← Wm.extract_str]; rfl), rfl⟩

theorem Wm.str_eta (l : List UInt8) : Wm.str l = .string ⟨l.toArray⟩ := rfl

theorem rputText_any (s t : ByteArray) (w : World) (hs : s.size + t.size ≤ 9223372036854770000) :
    Calls Try.prog 35 #[.string s, .string t] w fun e w' => e = .returned (Wm.str (s.data.toList ++ Wm.encT t.data.toList)) ∧ Below w.heap.size w w' := by
  have hl : t.data.toList.length = t.size := by simp
  have hE := Wm.encI_length (t.size : Int)
  have HF := Lib.hid (show Wm.encT t.data.toList = Wm.encI (t.size : Int) ++ t.data.toList by unfold Wm.encT; rw [hl])
  clear hl
  go_enter Try.func35, Try.ntmps35
  go_wp2_with fail
  refine (rput_any s t.size _ (by omega) (by omega) (by omega)).mono ?_
  rintro e w' ⟨rfl, hB⟩
  obtain ⟨E, hE1, hE2⟩ : ∃ E : ByteArray, E = ⟨(s.data.toList ++ Wm.encI (t.size : Int)).toArray⟩ ∧ E.size ≤ s.size + 10 := ⟨_, rfl, by show Array.size _ ≤ _; simp; omega⟩
  rw [Wm.str_eta, ← hE1]
  have a2 : ∀ W : World, (Op.stringOp .add E t).run Try.prog W = .ok (.string (E ++ t)) W := fun W => run_string_add_sum W E t (by omega)
  have HE := Lib.hid hE1
  clear hE1 hE
  go_wp2_with fail
  go_ret
  refine ⟨?_, hB⟩
  rw [HF.out, show Wm.str (s.data.toList ++ (Wm.encI (t.size : Int) ++ t.data.toList)) = .string (E ++ t) from ?_]
  · rfl
  · unfold Wm.str
    congr 1
    apply bytes_ext
    rw [HE.out]
    simp

/-- a slice whose cells are these numbers -/
def IntsAt (w : World) (A : Option Addr) (n : Nat) (z : List Int) : Prop :=
  z.length = n ∧ (0 < n → ∃ b o, A = some ⟨b, o, none⟩ ∧ ∀ i (h : i < z.length), w.cell? ⟨b, o + i, none⟩ = some (.int .i64 z[i]))
theorem IntsIn.ints {w : World} {A : Option Addr} {n c : Nat} {z : List Int} (h : IntsIn .i64 w A n c z) : IntsAt w A n z :=
  ⟨h.1, fun hn => by obtain ⟨b, o, hA, _, hc⟩ := h.2.2.2.2 hn; exact ⟨b, o, hA, hc⟩⟩
theorem own_ints {w : World} {B : Nat} {v : Value} {z : List Int} (h : w.ownsRow B 3 1 v z.length (z.map (Value.int .i64))) : ∃ A c, v = .slice A z.length c ∧ IntsAt w A z.length z := by
  rcases h.2 with ⟨rfl, hz⟩ | ⟨g, cap, cur, hv, _⟩
  · exact ⟨none, 0, by rw [hz], rfl, fun hn => absurd hn (by omega)⟩
  · subst hv
    exact ⟨_, _, rfl, rfl, fun _ => ⟨g, 0, rfl, fun i hi => by
      have := h.cells rfl i _ (by rw [List.getElem?_map, List.getElem?_eq_getElem hi]; rfl)
      have e1 : (⟨g, 0, none⟩ : Addr).add i = ⟨g, 0 + i, none⟩ := by unfold Addr.add; split <;> simp_all
      rw [e1] at this
      exact this⟩⟩

end Go.Proofs.Ytapmdneepinbgaa
