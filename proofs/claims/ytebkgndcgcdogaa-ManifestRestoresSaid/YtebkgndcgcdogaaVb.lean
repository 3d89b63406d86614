/-
  Contracts of the reference of manifest: Name, has.
-/
import Derived.Test.YtebkgndcgcdogaaVa
import Derived.Test.YtebkgndcgcdogaaDigA
namespace Go.Proofs.Ytebkgndcgcdogaa
open Go.RowKit
set_option maxHeartbeats 1000000

def Vm.val (x : Vm.Nm) : Value := .agg #[.int .i64 x.1, .int .i64 x.2]

theorem rname_any (s : ByteArray) (w : World) (hs : s.size ≤ maxLen) :
    Calls Try.prog 40 #[.string s] w fun e w' => e = .returned (Vm.val (Vm.nm s.data.toList)) ∧ Below w.heap.size w w' := by
  have HS := Lib.hid (fun V => rsum_any s V hs)
  obtain ⟨D, hD⟩ : ∃ D, Dm.sum s.data.toList = D := ⟨_, rfl⟩
  have HV := Lib.hid (show Vm.nm s.data.toList = (D, (s.size : Int)) by unfold Vm.nm; rw [hD]; simp)
  rw [hD] at HS
  clear hD
  go_enter Try.func40, Try.ntmps40
  go_wp2_with fail
  refine (HS.out _).mono ?_
  rintro e w' ⟨rfl, rfl⟩
  go_wp2
  exact bodyPost_ret (v := Vm.val (Vm.nm s.data.toList)) (by rw [HV.out]; simp [results, Try.results40, go_sem, Vm.val]) rfl ⟨rfl, (Below.refl _ w).alloc (Nat.le_refl _) _⟩

theorem name_eq (a b c d : Int) (W : World) : (Op.equalIn 10000 59 (.agg #[.int .i64 a, .int .i64 b]) (.agg #[.int .i64 c, .int .i64 d])).run Try.prog W = .ok (decide ((a, b) = (c, d))) W := by
  have hS : Try.prog.underlying 59 = some (.struct (Try.prog.fieldsOf 59)) := by kernel_rfl
  have u3 := Try.underlying3
  rw [show (10000 : Nat) = 9999 + 1 from rfl, run_equalIn_agg W 9999 59 _ _ hS (by kernel_rfl)]
  simp only [Program.fieldsOf, Try.underlying59]
  go_simp
  by_cases h1 : a = c
  · by_cases h2 : b = d
    · simp [h1, h2]
    · simp [h1, h2]
  · simp [h1]
theorem name_ne {a b c d : Int} (h : (a, b) ≠ (c, d)) (W : World) : (Op.equalIn 10000 59 (.agg #[.int .i64 a, .int .i64 b]) (.agg #[.int .i64 c, .int .i64 d])).run Try.prog W = .ok false W := by
  rw [name_eq, decide_eq_false h]

theorem Vm.not_in {l : List Vm.Nm} {x : Vm.Nm} (h : ∀ j (hj : j < l.length), l[j] ≠ x) : x ∉ l := fun hm => by
  obtain ⟨j, hj, e⟩ := List.mem_iff_getElem.1 hm
  exact h j hj e

theorem rhasV_any (A : Option Addr) (n c : Nat) (l : List Vm.Nm) (x : Vm.Nm) (w : World) (hl : NamesIn w A n c l) (hn : n ≤ 17592186044416) :
    Calls Try.prog 71 #[.slice A n c, Vm.val x] w fun e w' => e = .returned (.bool (decide (x ∈ l))) ∧ Below w.heap.size w w' := by
  obtain ⟨x0, x1⟩ := x
  unfold Vm.val
  go_enter Try.func71, Try.ntmps71
  have HL := Lib.hid hl
  have HB0 := Lib.hid ((Below.refl w.heap.size w).alloc (Nat.le_refl _) (.cells #[Value.int .i64 x0, .int .i64 x1] 59))
  have q0 : (w.alloc (.cells #[Value.int .i64 x0, .int .i64 x1] 59)).heap[w.heap.size]? = some (.cells #[Value.int .i64 x0, .int .i64 x1] 59 (0, 0)) := heap_alloc_new _ _
  have Q0 := Lib.hid q0
  have hs0 : (w.alloc (.cells #[Value.int .i64 x0, .int .i64 x1] 59)).heap.size = w.heap.size + 1 := by simp
  clear hl q0
  obtain ⟨B, hB⟩ : ∃ B, w.heap.size = B := ⟨_, rfl⟩
  rw [hB] at HB0 Q0 hs0
  go_wp2_with fail
  generalize w.alloc (.cells #[Value.int .i64 x0, .int .i64 x1] 59) = w1 at HB0 Q0 hs0 ⊢
  go_loopw [9] (fun i wr => ∃ k : Nat, k ≤ n ∧ i = .int .i64 k ∧ Below (B + 1) w1 wr ∧ ∀ j (hj : j < l.length), j < k → l[j] ≠ (x0, x1)) (fun i wr => n - (intOf i).toNat)
  case atStart => exact ⟨0, by omega, rfl, Below.refl _ _, fun j _ h => absurd h (by omega)⟩
  case round =>
    obtain ⟨k, hk, rfl, hBr, hno⟩ := hrel
    have hBw := HB0.out.trans (hBr.mono (by omega))
    have hsz := hBr.size
    by_cases hlt : k < n
    · have d8 : decide ((k : Int) < (n : Int)) = true := by simp; omega
      obtain ⟨g, o, rfl, hg, hz, y0, y1⟩ := HL.out.at hlt
      have z0 := (hBw.cell (p := ⟨g, o + k * 2, none⟩) (by rw [← hB]; exact hg)).trans y0
      have z1 := (hBw.cell (p := ⟨g, o + k * 2 + 1, none⟩) (by rw [← hB]; exact hg)).trans y1
      obtain ⟨a, ha⟩ : ∃ a, l[k].1 = a := ⟨_, rfl⟩
      obtain ⟨b, hb⟩ : ∃ b, l[k].2 = b := ⟨_, rfl⟩
      rw [ha] at z0
      rw [hb] at z1
      have hx : wr.heap[B]? = some (.cells #[Value.int .i64 x0, .int .i64 x1] 59 (0, 0)) := (hBr.block B (by omega)).trans Q0.out
      have z2 : wr.cell? ⟨B, 0, none⟩ = some (.int .i64 x0) := by simp [World.cell?, hx]
      have z3 : wr.cell? ⟨B, 1, none⟩ = some (.int .i64 x1) := by simp [World.cell?, hx]
      have hE : l[k] = (a, b) := Prod.ext ha hb
      have HE := Lib.hid hE
      have HBr := Lib.hid hBr
      have HBw := Lib.hid hBw
      have HNO := Lib.hid hno
      have hBs : B < wr.heap.size := by omega
      clear hBr hno y0 y1 ha hb hE hx hBw hg
      by_cases he : (a, b) = (x0, x1)
      · obtain ⟨rfl, rfl⟩ : a = x0 ∧ b = x1 := by injection he with h1 h2; exact ⟨h1, h2⟩
        have HF := Lib.hid (show decide ((a, b) ∈ l) = true by rw [decide_eq_true]; rw [← HE.out]; exact List.getElem_mem hz)
        go_wp2_with fail
        go_ret
        exact ⟨by rw [HF.out]; rfl, (HBw.out.mono (by omega)).alloc (by omega) _⟩
      · have q := name_ne he
        have HNE := Lib.hid he
        clear he
        go_wp2_with fail
        go_roundw
        case rel => exact ⟨k + 1, by omega, by go_num, HBr.out.alloc (by omega) _, fun j hj h => by
          by_cases e : j = k
          · subst e; rw [HE.out]; exact HNE.out
          · exact HNO.out j hj (by omega)⟩
        case measure => simp [intOf]; omega
    · obtain rfl : k = n := by omega
      have HF := Lib.hid (show decide ((x0, x1) ∈ l) = false from decide_eq_false (Vm.not_in (fun j hj => hno j hj (by rw [HL.out.1] at hj; exact hj))))
      clear hno
      go_wp2_with fail
      go_ret
      exact ⟨by rw [HF.out]; rfl, hBw.mono (by omega)⟩

end Go.Proofs.Ytebkgndcgcdogaa
