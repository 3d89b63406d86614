/-
  DigestPoints: its walk.
-/
import Derived.Test.YtkhpacifapidiaaDigB
namespace Go.Proofs.Ytkhpacifapidiaa
open Go.RowKit
set_option maxHeartbeats 1000000

set_option maxRecDepth 100000 in
theorem digestPoints_walk (s t : ByteArray) (x : Int) (w : World) (hs : s.size ≤ 140737488351232) (ht : t.size ≤ 140737488351232) (x0 : -9223372036854775808 ≤ x) (x1 : x ≤ 9223372036854775807) :
    Calls Try.prog 7 #[.string s, .string t, .int .i64 x] w fun e w' => e = .returned (.bool true) ∧ Below w.heap.size w w' := by
  by_cases hn : 3000 < s.size
  · go_enter Try.func7, Try.ntmps7
    go_wp2_with fail
    refine (dsane_any _).mono ?_
    rintro e w' ⟨rfl, rfl⟩
    go_wp2_with fail
    go_ret
    exact ⟨rfl, Below.refl _ _⟩
  · have hsl : s.data.toList.length = s.size := by simp
    obtain ⟨y, hy⟩ : ∃ y, x % 2147483647 = y := ⟨_, rfl⟩
    have y0 : 0 ≤ y := by omega
    have y1 : y < 2147483647 := by omega
    have yy : y % 2147483647 = y := by omega
    obtain ⟨p, hp⟩ : ∃ p, Dm.pw y s.size = p := ⟨_, rfl⟩
    have bp := Dm.pw_lt y s.size
    have z1 : (s ++ t).size = s.size + t.size := ByteArray.size_append
    have e1 : (s ++ t).data.toList = s.data.toList ++ t.data.toList := by simp
    have v1 : Dm.atx (s ++ t).data.toList y = (Dm.atx s.data.toList y + p * Dm.atx t.data.toList y) % 2147483647 := by
      unfold Dm.atx; rw [yy, e1, Dm.at'_app, hsl, hp]
    have v2 : Dm.atx s.data.toList (y - 2147483647) = Dm.atx s.data.toList y := by
      unfold Dm.atx; rw [show (y - 2147483647) % 2147483647 = y % 2147483647 from by omega]
    have v3 : Dm.atx s.data.toList x = Dm.atx s.data.toList y := by
      unfold Dm.atx; rw [hy, yy]
    obtain ⟨c, hc⟩ : ∃ c, Dm.atx s.data.toList y = c := ⟨_, rfl⟩
    obtain ⟨d, hd⟩ : ∃ d, Dm.atx t.data.toList y = d := ⟨_, rfl⟩
    have bc := Dm.atx_lt s.data.toList y
    have bd := Dm.atx_lt t.data.toList y
    rw [hp] at bp
    rw [hc] at bc v1 v2 v3
    rw [hd] at bd v1
    obtain ⟨m0, m1⟩ := Dm.prod bp.1 bp.2 bd.1 bd.2
    obtain ⟨m, hm⟩ : ∃ m, p * d = m := ⟨_, rfl⟩
    rw [hm] at m0 m1 v1
    have CM := Lib.hid (fun W => hy ▸ mkMod_any x 2147483647 W x0 x1 (by decide) (by decide))
    have CA := Lib.hid (fun W => v1 ▸ at_any (s ++ t) y W (by unfold maxLen; omega) (by omega) (by omega))
    have CS := Lib.hid (fun W => hc ▸ at_any s y W (by unfold maxLen; omega) (by omega) (by omega))
    have CT := Lib.hid (fun W => hd ▸ at_any t y W (by unfold maxLen; omega) (by omega) (by omega))
    have C2 := Lib.hid (fun W => v2 ▸ at_any s (y - 2147483647) W (by unfold maxLen; omega) (by omega) (by omega))
    have C3 := Lib.hid (fun W => v3 ▸ at_any s x W (by unfold maxLen; omega) (by omega) (by omega))
    have a1 : ∀ W : World, (Op.stringOp .add s t).run Try.prog W = .ok (.string (s ++ t)) W := fun W => run_string_add_sum W s t (by omega)
    have HP := Lib.hid hp
    clear hsl hy yy z1 e1 v1 v2 v3 hc hd hp bp
    go_enter Try.func7, Try.ntmps7
    go_wp2_with fail
    refine (dsane_any _).mono ?_
    rintro e w' ⟨rfl, rfl⟩
    go_wp2_with fail
    refine (CM.out _).mono ?_
    rintro e w' ⟨rfl, rfl⟩
    go_wp2_with fail
    go_loop [8, 18] (fun v i => ∃ k : Nat, k ≤ s.size ∧ i = .int .i64 k ∧ v = .int .i64 (Dm.pw y k)) (fun v i => s.size - (intOf i).toNat)
    case atStart => exact ⟨0, by omega, rfl, by rw [Dm.pw_zero]⟩
    case round =>
      obtain ⟨k, hk, rfl, rfl⟩ := hrel
      by_cases hlt : k < s.size
      · have b2 := Dm.pw_lt y k
        have hS := Dm.pw_succ y k
        obtain ⟨V, hV⟩ : ∃ V, Dm.pw y k = V := ⟨_, rfl⟩
        rw [hV] at b2 hS ⊢
        obtain ⟨p0, p1⟩ := Dm.prod b2.1 b2.2 y0 y1
        obtain ⟨T, hT⟩ : ∃ T, V * y = T := ⟨_, rfl⟩
        rw [hT] at p0 p1 hS
        have HS := Lib.hid hS
        clear hS hV b2 a1 hm
        go_wp2
        go_round
        case rel => exact ⟨k + 1, by omega, by go_num, by rw [HS.out]⟩
        case measure => simp [intOf]; omega
      · obtain rfl : k = s.size := by omega
        rw [HP.out]
        clear HP
        go_wp2_with (go_at_call 18; first | ((with_reducible refine (CA.out _).mono ?_); rintro e w' ⟨rfl, rfl⟩) | ((with_reducible refine (CS.out _).mono ?_); rintro e w' ⟨rfl, rfl⟩) | ((with_reducible refine (CT.out _).mono ?_); rintro e w' ⟨rfl, rfl⟩) | ((with_reducible refine (C2.out _).mono ?_); rintro e w' ⟨rfl, rfl⟩) | ((with_reducible refine (C3.out _).mono ?_); rintro e w' ⟨rfl, rfl⟩))
        go_ret
        exact ⟨rfl, Below.refl _ _⟩
end Go.Proofs.Ytkhpacifapidiaa
