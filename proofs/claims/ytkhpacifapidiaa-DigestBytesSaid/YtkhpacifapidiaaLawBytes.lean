/-
  DigestBytes: its walk.
-/
import Derived.Test.YtkhpacifapidiaaDigB
namespace Go.Proofs.Ytkhpacifapidiaa
open Go.RowKit
set_option maxHeartbeats 1000000

set_option maxRecDepth 100000 in
theorem digestBytes_walk (s : ByteArray) (q b x : Int) (w : World) (hs : s.size ≤ 140737488351232) (hq0 : 0 ≤ q) (hq1 : q ≤ 65535) (hb0 : 0 ≤ b) (hb1 : b ≤ 255) (x0 : -9223372036854775808 ≤ x) (x1 : x ≤ 9223372036854775807) :
    Calls Try.prog 6 #[.string s, .int .u16 q, .int .u8 b, .int .i64 x] w fun e w' => e = .returned (.bool true) ∧ Below w.heap.size w w' := by
  obtain ⟨q, rfl⟩ := Int.eq_ofNat_of_zero_le hq0
  obtain ⟨b, rfl⟩ := Int.eq_ofNat_of_zero_le hb0
  by_cases hn : s.size = 0
  · have g0 : ((s.size : Int) == 0) = true := beq_iff_eq.2 (by omega)
    clear hn
    go_enter Try.func6, Try.ntmps6
    go_wp2_with fail
    refine (dsane_any _).mono ?_
    rintro e w' ⟨rfl, rfl⟩
    go_wp2_with fail
    go_ret
    exact ⟨rfl, Below.refl _ _⟩
  · have g0 : ((s.size : Int) == 0) = false := beq_eq_false_iff_ne.2 (by omega)
    have g1 : ¬ s = ByteArray.empty := fun h => hn (by rw [h]; rfl)
    have hn1 : 1 ≤ s.size := by omega
    have hk := Nat.mod_lt q (show s.size > 0 by omega)
    obtain ⟨C, w5, hcv, hC, hB5, hsz5, hcell5, hfr5⟩ := bytes_of_string (P := Try.prog) w 9 34 5 s Try.underlying9 Try.underlying34 Try.underlying5
    obtain ⟨t, ht, htl, hcell6⟩ := bytes_set hcell5 (q % s.size) hk (b : Int) hb0 hb1
    obtain ⟨y, hy⟩ : ∃ y : Nat, (s[q % s.size]'hk).toNat = y := ⟨_, rfl⟩
    have hc5 : w5.cell? ⟨w.heap.size, q % s.size, none⟩ = some (.int .u8 (y : Int)) := by rw [hcell5 _ hk, hy]
    have hf5 := hfr5 (q % s.size) hk
    have hB6 := hB5.setCell (p := ⟨w.heap.size, q % s.size, none⟩) (Nat.le_refl _) (.int .u8 (b : Int))
    have hcv6 : (convert 34 9 (.slice (some ⟨w.heap.size, 0, none⟩) s.size C)).run Try.prog (w5.setCell ⟨w.heap.size, q % s.size, none⟩ (.int .u8 (b : Int))) = .ok (.string t) (w5.setCell ⟨w.heap.size, q % s.size, none⟩ (.int .u8 (b : Int))) :=
      BytesAt.conv (W := w5.setCell ⟨w.heap.size, q % s.size, none⟩ (.int .u8 (b : Int))) hcell6 34 9 5 s.size C ht.symm Try.underlying34 Try.underlying5 Try.underlying9
    -- the answers
    obtain ⟨z, hz⟩ : ∃ z, 1 + x % 2147483646 = z := ⟨_, rfl⟩
    have z0 : 1 ≤ z := by omega
    have z1 : z < 2147483647 := by omega
    have hsl : s.data.toList.length = s.size := by simp
    have hset : ∀ h : q % s.size < s.data.toList.length, s.data.toList[q % s.size]'h = UInt8.ofNat b → y = b := fun h e => by
      rw [← hy, show s[q % s.size]'hk = s.data.toList[q % s.size]'h from rfl, e]
      simp [UInt8.toNat_ofNat']; omega
    have hsame : y = b → s.data.toList.set (q % s.size) (UInt8.ofNat b) = s.data.toList := fun e => by
      rw [← e, ← hy]
      have : UInt8.ofNat (s[q % s.size]'hk).toNat = s.data.toList[q % s.size]'(by rw [hsl]; exact hk) := UInt8.ofNat_toNat
      rw [this, List.set_getElem_self]
    have htl' : t.data.toList = s.data.toList.set (q % s.size) (UInt8.ofNat b) := by rw [htl]; simp
    have r1 : Dm.sum s.data.toList = Dm.sum t.data.toList ↔ y = b := by
      rw [htl']
      exact ⟨fun h => hset _ (Dm.sum_set _ _ (by rw [hsl]; exact hk) _ h), fun h => by rw [hsame h]⟩
    have zz : z % 2147483647 = z := by omega
    have r2 : Dm.atx s.data.toList z = Dm.atx t.data.toList z ↔ y = b := by
      rw [htl']
      unfold Dm.atx
      rw [zz]
      exact ⟨fun h => hset _ (Dm.at'_set z z0 z1 _ _ (by rw [hsl]; exact hk) _ h), fun h => by rw [hsame h]⟩
    have hts : t.size ≤ 9223372036854775807 := by rw [ht]; omega
    obtain ⟨u, hu⟩ : ∃ u, Dm.sum s.data.toList = u := ⟨_, rfl⟩
    obtain ⟨v, hv⟩ : ∃ v, Dm.sum t.data.toList = v := ⟨_, rfl⟩
    obtain ⟨f, hf⟩ : ∃ f, Dm.atx s.data.toList z = f := ⟨_, rfl⟩
    obtain ⟨g, hg⟩ : ∃ g, Dm.atx t.data.toList z = g := ⟨_, rfl⟩
    rw [hu, hv] at r1
    rw [hf, hg] at r2
    have CM := Lib.hid (fun W => mkMod_any x 2147483646 W x0 x1 (by decide) (by decide))
    have CS := Lib.hid (fun W => hu ▸ sum_any s W (by unfold maxLen; omega))
    have CT := Lib.hid (fun W => hv ▸ sum_any t W (by unfold maxLen; omega))
    have CA := Lib.hid (fun W => hf ▸ at_any s z W (by unfold maxLen; omega) (by omega) (by omega))
    have CB := Lib.hid (fun W => hg ▸ at_any t z W (by unfold maxLen; omega) (by omega) (by omega))
    have HB6 := Lib.hid hB6
    have HZ := Lib.hid hz
    clear hcell5 hfr5 ht htl hcell6 hy hB5 hB6 hsl hset hsame htl' zz hu hv hf hg hz hts
    have g3 : (u == v) = (y == b) := by rw [Bool.eq_iff_iff]; simpa using r1
    have g4 : (f == g) = (y == b) := by rw [Bool.eq_iff_iff]; simpa using r2
    clear r1 r2
    by_cases hyb : y = b
    · have e0 : ((y : Int) == (b : Int)) = true := by simp; omega
      have e1 : (u == v) = true := by rw [g3]; simpa using hyb
      have e2 : (f == g) = true := by rw [g4]; simpa using hyb
      clear g3 g4 hyb
      go_enter Try.func6, Try.ntmps6
      go_wp2_with fail
      refine (dsane_any _).mono ?_
      rintro e w' ⟨rfl, rfl⟩
      go_wp2_with (go_at_call 9; (with_reducible refine (CM.out _).mono ?_); rintro e w' ⟨rfl, rfl⟩)
      rw [HZ.out]
      go_wp2_with (first | (go_at_call 14; first | ((with_reducible refine (CS.out _).mono ?_); rintro e w' ⟨rfl, rfl⟩) | ((with_reducible refine (CT.out _).mono ?_); rintro e w' ⟨rfl, rfl⟩)) | (go_at_call 18; first | ((with_reducible refine (CA.out _).mono ?_); rintro e w' ⟨rfl, rfl⟩) | ((with_reducible refine (CB.out _).mono ?_); rintro e w' ⟨rfl, rfl⟩)))
      go_ret
      exact ⟨rfl, HB6.out⟩
    · have e0 : ((y : Int) == (b : Int)) = false := by simp; omega
      have e1 : (u == v) = false := by rw [g3]; simpa using hyb
      have e2 : (f == g) = false := by rw [g4]; simpa using hyb
      clear g3 g4 hyb
      go_enter Try.func6, Try.ntmps6
      go_wp2_with fail
      refine (dsane_any _).mono ?_
      rintro e w' ⟨rfl, rfl⟩
      go_wp2_with (go_at_call 9; (with_reducible refine (CM.out _).mono ?_); rintro e w' ⟨rfl, rfl⟩)
      rw [HZ.out]
      go_wp2_with (first | (go_at_call 14; first | ((with_reducible refine (CS.out _).mono ?_); rintro e w' ⟨rfl, rfl⟩) | ((with_reducible refine (CT.out _).mono ?_); rintro e w' ⟨rfl, rfl⟩)) | (go_at_call 18; first | ((with_reducible refine (CA.out _).mono ?_); rintro e w' ⟨rfl, rfl⟩) | ((with_reducible refine (CB.out _).mono ?_); rintro e w' ⟨rfl, rfl⟩)))
      go_ret
      exact ⟨rfl, HB6.out⟩
end Go.Proofs.Ytkhpacifapidiaa
