/-
  DigestJoins: its walk.
-/
import Derived.Test.YtkhpacifapidiaaDigB
namespace Go.Proofs.Ytkhpacifapidiaa
open Go.RowKit
set_option maxHeartbeats 1000000

set_option maxRecDepth 100000 in
theorem digestJoins_walk (s t u : ByteArray) (w : World) (hs : s.size ≤ 140737488351232) (ht : t.size ≤ 140737488351232) (hu : u.size ≤ 140737488351232) :
    Calls Try.prog 4 #[.string s, .string t, .string u] w fun e w' => e = .returned (.bool true) ∧ Below w.heap.size w w' := by
  have ls : s.data.toList.length = s.size := by simp
  have lt : t.data.toList.length = t.size := by simp
  have lu : u.data.toList.length = u.size := by simp
  have z1 : (s ++ t).size = s.size + t.size := ByteArray.size_append
  have z2 : (s ++ t ++ u).size = s.size + t.size + u.size := by rw [ByteArray.size_append, z1]
  have e1 : (s ++ t).data.toList = s.data.toList ++ t.data.toList := by simp
  have e2 : (s ++ t ++ u).data.toList = s.data.toList ++ t.data.toList ++ u.data.toList := by simp
  have j1 := Dm.sum_join s.data.toList t.data.toList
  have j2 := Dm.sum_join (s.data.toList ++ t.data.toList) u.data.toList
  have j3 := Dm.sum_join t.data.toList u.data.toList
  have j4 := Dm.sum_join s.data.toList (t.data.toList ++ u.data.toList)
  rw [List.length_append, lt, lu, ← List.append_assoc] at j4
  rw [lt] at j1
  rw [lu] at j2 j3
  rw [← e2] at j2 j4
  rw [← e1] at j1 j2
  obtain ⟨a, ha⟩ : ∃ a, Dm.sum s.data.toList = a := ⟨_, rfl⟩
  obtain ⟨b, hb⟩ : ∃ b, Dm.sum t.data.toList = b := ⟨_, rfl⟩
  obtain ⟨c, hc⟩ : ∃ c, Dm.sum u.data.toList = c := ⟨_, rfl⟩
  obtain ⟨d, hd⟩ : ∃ d, Dm.sum (s ++ t).data.toList = d := ⟨_, rfl⟩
  obtain ⟨f, hf⟩ : ∃ f, Dm.sum (t.data.toList ++ u.data.toList) = f := ⟨_, rfl⟩
  obtain ⟨g, hg⟩ : ∃ g, Dm.sum (s ++ t ++ u).data.toList = g := ⟨_, rfl⟩
  have ba := Dm.sum_lt s.data.toList
  have bb := Dm.sum_lt t.data.toList
  have bc := Dm.sum_lt u.data.toList
  have bd := Dm.sum_lt (s ++ t).data.toList
  have bf := Dm.sum_lt (t.data.toList ++ u.data.toList)
  have bg := Dm.sum_lt (s ++ t ++ u).data.toList
  have j5 := Dm.join_one (Dm.sum s.data.toList) ba.1 ba.2
  rw [ha] at ba j1 j4 j5
  rw [hb] at bb j1 j3
  rw [hc] at bc j2 j3
  rw [hd] at bd j1 j2
  rw [hf] at bf j3 j4
  rw [hg] at bg j2 j4
  rw [show ((t.size + u.size : Nat) : Int) = (t.size : Int) + (u.size : Int) from by omega] at j4
  have CS := Lib.hid (fun W => ha ▸ sum_any s W (by unfold maxLen; omega))
  have CT := Lib.hid (fun W => hb ▸ sum_any t W (by unfold maxLen; omega))
  have CU := Lib.hid (fun W => hc ▸ sum_any u W (by unfold maxLen; omega))
  have CD := Lib.hid (fun W => hd ▸ sum_any (s ++ t) W (by unfold maxLen; omega))
  have CG := Lib.hid (fun W => hg ▸ sum_any (s ++ t ++ u) W (by unfold maxLen; omega))
  have J1 := Lib.hid (fun W => j1 ▸ join_any a b t.size W (by omega) (by omega) (by omega) (by omega) (by omega) (by omega))
  have J2 := Lib.hid (fun W => j2 ▸ join_any d c u.size W (by omega) (by omega) (by omega) (by omega) (by omega) (by omega))
  have J3 := Lib.hid (fun W => j3 ▸ join_any b c u.size W (by omega) (by omega) (by omega) (by omega) (by omega) (by omega))
  have J4 := Lib.hid (fun W => j4 ▸ join_any a f (t.size + u.size) W (by omega) (by omega) (by omega) (by omega) (by omega) (by omega))
  have J5 := Lib.hid (fun W => j5 ▸ join_any a 1 0 W (by omega) (by omega) (by omega) (by omega) (by omega) (by omega))
  have a1 : ∀ W : World, (Op.stringOp .add s t).run Try.prog W = .ok (.string (s ++ t)) W := fun W => run_string_add_sum W s t (by omega)
  have a2 : ∀ W : World, (Op.stringOp .add (s ++ t) u).run Try.prog W = .ok (.string (s ++ t ++ u)) W := fun W => run_string_add_sum W (s ++ t) u (by omega)
  clear ls lt lu z1 z2 e1 e2 j1 j2 j3 j4 j5 ha hb hc hd hf hg
  go_enter Try.func4, Try.ntmps4
  go_wp2_with fail
  refine (dsane_any _).mono ?_
  rintro e w' ⟨rfl, rfl⟩
  go_wp2_with (first | (go_at_call 14; first | ((with_reducible refine (CS.out _).mono ?_); rintro e w' ⟨rfl, rfl⟩) | ((with_reducible refine (CT.out _).mono ?_); rintro e w' ⟨rfl, rfl⟩) | ((with_reducible refine (CU.out _).mono ?_); rintro e w' ⟨rfl, rfl⟩) | ((with_reducible refine (CD.out _).mono ?_); rintro e w' ⟨rfl, rfl⟩) | ((with_reducible refine (CG.out _).mono ?_); rintro e w' ⟨rfl, rfl⟩)) | (go_at_call 12; first | ((with_reducible refine (J1.out _).mono ?_); rintro e w' ⟨rfl, rfl⟩) | ((with_reducible refine (J2.out _).mono ?_); rintro e w' ⟨rfl, rfl⟩) | ((with_reducible refine (J3.out _).mono ?_); rintro e w' ⟨rfl, rfl⟩) | ((with_reducible refine (J4.out _).mono ?_); rintro e w' ⟨rfl, rfl⟩) | ((with_reducible refine (J5.out _).mono ?_); rintro e w' ⟨rfl, rfl⟩)))
  go_ret
  exact ⟨rfl, Below.refl _ _⟩
end Go.Proofs.Ytkhpacifapidiaa
