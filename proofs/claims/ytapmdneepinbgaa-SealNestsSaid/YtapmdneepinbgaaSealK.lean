/-
  SealBack: its walk.
-/
import Derived.Test.YtapmdneepinbgaaSealL
import Derived.Laws.StructEq
namespace Go.Proofs.Ytapmdneepinbgaa
open Go.RowKit
set_option maxHeartbeats 1000000

/-- two sealed texts are compared -/
theorem sealed_eq (a b : Int) (s t : ByteArray) (W : World) : (Op.equalIn 10000 23 (.agg #[.int .i64 a, .string s]) (.agg #[.int .i64 b, .string t])).run Try.prog W = .ok (a == b && (s.toList == t.toList)) W := by
  have hS : Try.prog.underlying 23 = some (.struct (Try.prog.fieldsOf 23)) := by kernel_rfl
  have u3 := Try.underlying3
  have u9 := Try.underlying9
  rw [show (10000 : Nat) = 9999 + 1 from rfl, run_equalIn_agg W 9999 23 _ _ hS (by kernel_rfl)]
  simp only [Program.fieldsOf, Try.underlying23]
  go_simp
  by_cases h1 : a = b
  · by_cases h2 : s.toList = t.toList
    · simp [h1, h2]
    · simp [h1, h2]
  · simp [h1]

/-- a block of two cells -/
def Has2 (w : World) (b : Nat) (x y : Value) : Prop := w.cell? ⟨b, 0, none⟩ = some x ∧ w.cell? ⟨b, 1, none⟩ = some y ∧ b < w.heap.size
theorem Has2.new (w : World) (x y : Value) (t : TypeId) : Has2 (w.alloc (.cells #[x, y] t)) w.heap.size x y :=
  ⟨by rw [cell_new_at _ _ _ _ rfl]; rfl, by rw [cell_new_at _ _ _ _ rfl]; rfl, by simp⟩
theorem Has2.alloc {w : World} {b : Nat} {x y : Value} (h : Has2 w b x y) (o : Obj) : Has2 (w.alloc o) b x y :=
  ⟨by rw [World.cell?_alloc_lt _ _ _ h.2.2]; exact h.1, by rw [World.cell?_alloc_lt _ _ _ h.2.2]; exact h.2.1, by have := h.2.2; simp; omega⟩
theorem Has2.below {w w' : World} {b : Nat} {x y : Value} (h : Has2 w b x y) (hb : Below w.heap.size w w') : Has2 w' b x y :=
  ⟨(hb.cell (p := ⟨b, 0, none⟩) h.2.2).trans h.1, (hb.cell (p := ⟨b, 1, none⟩) h.2.2).trans h.2.1, Nat.lt_of_lt_of_le h.2.2 hb.size⟩

set_option maxRecDepth 100000 in
theorem sealBack_walk (T U F H : ByteArray) (key more : Int) (w : World) (hT : T.size ≤ 140737488351232) (hU : U.size ≤ 140737488351232) (hF : F.size ≤ 140737488351232) (hH : H.size ≤ 140737488351232)
    (hk0 : -9223372036854775808 ≤ key) (hk1 : key ≤ 9223372036854775807) (hw0 : -9223372036854775808 ≤ more) (hw1 : more ≤ 9223372036854775807) :
    Calls Try.prog 6 #[.string T, .string U, .string F, .string H, .int .i64 key, .int .i64 more] w fun e w' => e = .returned (.bool true) ∧ Below w.heap.size w w' := by
  by_cases hbig : 16384 < T.size + U.size
  · have d1 : decide ((16384 : Int) < (T.size : Int) + (U.size : Int)) = true := by simp; omega
    go_enter Try.func6, Try.ntmps6
    go_wp2_with fail
    refine (ssane_any _).mono ?_
    rintro e w1 ⟨rfl, hB1⟩
    go_wp2
    go_ret
    exact ⟨rfl, hB1⟩
  have d1 : decide ((16384 : Int) < (T.size : Int) + (U.size : Int)) = false := by simp; omega
  have hT : T.size ≤ 16384 := by omega
  have hU : U.size ≤ 16384 := by omega
  obtain ⟨k, hk⟩ : ∃ k, key % 4294967294 = k := ⟨_, rfl⟩
  obtain ⟨v, hv⟩ : ∃ k, more % 4294967294 = k := ⟨_, rfl⟩
  have k0 : 0 ≤ k := by omega
  have k1 : k < 4294967294 := by omega
  have v0 : 0 ≤ v := by omega
  have v1 : v < 4294967294 := by omega
  obtain ⟨m, hm⟩ : ∃ m, 3 * k + 1 = m := ⟨_, rfl⟩
  obtain ⟨n, hn⟩ : ∃ n, 3 * v + 1 = n := ⟨_, rfl⟩
  have M1 := Lib.hid (fun W => hk ▸ mkMod_any key 4294967294 W hk0 hk1 (by decide) (by decide))
  have M2 := Lib.hid (fun W => hv ▸ mkMod_any more 4294967294 W hw0 hw1 (by decide) (by decide))
  have eS : Sm.sl T k = ((m, T), 0) := by rw [Sm.seal_ok k0 k1 hT, hm]
  have S1 := Lib.hid (fun W => eS ▸ seal_any T k W (by omega) (by omega) (by omega))
  have eU : Sm.sl U v = ((n, U), 0) := by rw [Sm.seal_ok v0 v1 hU, hn]
  have S2 := Lib.hid (fun W => eU ▸ seal_any U v W (by omega) (by omega) (by omega))
  have mV : Sm.valB m T = true := hm ▸ Sm.valB_of (Sm.lockB_of k0 k1) hT
  have nV : Sm.valB n U = true := hn ▸ Sm.valB_of (Sm.lockB_of v0 v1) hU
  have l1 := Sm.bytes_length m T
  have l2 := Sm.bytes_length n U
  have inj := @Sm.bytes_inj m n T U mV nV
  have eD := Sm.dec_bytes F.data.toList H.data.toList m T mV
  have eN : Sm.name m T = ((Dm.sum (Sm.bytes m T), ((Sm.bytes m T).length : Int)), 0) := by unfold Sm.name; rw [if_neg (by rw [mV]; decide)]
  obtain ⟨E, hE⟩ : ∃ E : ByteArray, E = ⟨(Sm.bytes m T).toArray⟩ := ⟨_, rfl⟩
  obtain ⟨G, hG⟩ : ∃ G : ByteArray, G = ⟨(Sm.bytes n U).toArray⟩ := ⟨_, rfl⟩
  have hE2 : Sm.bytes m T = E.data.toList := by rw [hE]
  have hG2 : Sm.bytes n U = G.data.toList := by rw [hG]
  have hE3 : (Sm.bytes m T).length = E.size := by rw [hE2]; simp
  have hG3 : (Sm.bytes n U).length = G.size := by rw [hG2]; simp
  obtain ⟨d, hd⟩ : ∃ d, Dm.sum E.data.toList = d := ⟨_, rfl⟩
  rw [hE3] at l1 eD eN
  rw [hG3] at l2
  rw [hE2] at eN eD
  rw [hd] at eN
  obtain ⟨l1a, l1b⟩ := l1
  obtain ⟨l2a, l2b⟩ := l2
  have eE : Sm.enc m T = (E, 0) := by rw [Sm.enc_ok mV, hE]
  have eG : Sm.enc n U = (G, 0) := by rw [Sm.enc_ok nV, hG]
  have E1 := Lib.hid (fun W => eE ▸ encode_any m T W (by omega) (by omega))
  have E2 := Lib.hid (fun W => eG ▸ encode_any n U W (by omega) (by omega))
  have N1 := Lib.hid (fun W => eN ▸ name_any m T W (by omega) (by omega))
  have D1 := Lib.hid (fun W => hd ▸ sum_any E W (by unfold maxLen; omega))
  have lF : F.data.toList.length = F.size := by simp
  rw [lF] at eD
  have eA : (F ++ E ++ H).data.toList = F.data.toList ++ (E.data.toList ++ H.data.toList) := by simp
  rw [← eA] at eD
  have zA : (F ++ E ++ H).size ≤ 9223372036854775000 := by rw [ByteArray.size_append, ByteArray.size_append]; omega
  have C1 := Lib.hid (fun W => eD ▸ decode_any (F ++ E ++ H) F.size W zA)
  have a1 : ∀ W : World, (Op.stringOp .add F E).run Try.prog W = .ok (.string (F ++ E)) W := fun W => run_string_add_sum W F E (by omega)
  have a2 : ∀ W : World, (Op.stringOp .add (F ++ E) H).run Try.prog W = .ok (.string (F ++ E ++ H)) W := fun W => run_string_add_sum W (F ++ E) H (by rw [ByteArray.size_append]; omega)
  have heq : m = n ∧ T = U → E = G := fun h => by rw [hE, hG, h.1, h.2]
  have hne : ¬ (m = n ∧ T = U) → E ≠ G := fun h e => h (inj (by rw [hE2, hG2, e]))
  have hm' := hm
  have hn' := hn
  clear hk hv hE hG hE2 hG2 hE3 hG3 hd eS eU eD eN eE eG eA lF inj mV nV zA
  by_cases hs : m = n ∧ T = U
  · skip
    have hEG := heq hs
    obtain ⟨hs1, hs2⟩ := hs
    clear hne heq hm hn hm' hn'
    subst hEG
    subst hs1
    subst hs2
    go_enter Try.func6, Try.ntmps6
    go_wp2_with fail
    refine (ssane_any _).mono ?_
    rintro e w1 ⟨rfl, hB1⟩
    go_wp2_with fail
    refine (M1.out _).mono ?_
    rintro e w' ⟨rfl, rfl⟩
    go_wp2_with fail
    refine (S1.out _).mono ?_
    rintro e w2 ⟨rfl, hB2⟩
    unfold Sm.sval
    have z2 := Lib.hid (Nat.le_trans hB1.size hB2.size)
    have hB2 := Lib.hid (hB1.trans (hB2.mono hB1.size))
    clear hB1
    go_wp2_with fail
    refine (M2.out _).mono ?_
    rintro e w' ⟨rfl, rfl⟩
    go_wp2_with fail
    refine (S2.out _).mono ?_
    rintro e w3 ⟨rfl, hB3⟩
    unfold Sm.sval
    have A3 := Lib.hid ((Has2.new w2 (.int .i64 m) (.string T) 23).below hB3)
    obtain ⟨p0, p1, p2⟩ := A3.out
    have hB3 := Lib.hid ((hB2.out.alloc z2.out _).trans (hB3.mono (Nat.le_trans z2.out (by simp))))
    clear hB2 z2
    have z3 := Lib.hid hB3.out.size
    go_wp2_with fail
    refine (E1.out _).mono ?_
    rintro e w4 ⟨rfl, hB4⟩
    unfold Sm.tval
    clear p0 p1 p2
    have A4 := Lib.hid ((A3.out.alloc _).below hB4)
    have G4 := Lib.hid ((Has2.new w3 (.int .i64 m) (.string T) 23).below hB4)
    obtain ⟨p0, p1, p2⟩ := A4.out
    obtain ⟨q0, q1, q2⟩ := G4.out
    have hB4 := Lib.hid ((hB3.out.alloc z3.out _).trans (hB4.mono (Nat.le_trans z3.out (by simp))))
    have z4 := Lib.hid hB4.out.size
    clear hB3 z3 A3
    go_wp2_with fail
    refine (E2.out _).mono ?_
    rintro e w5 ⟨rfl, hB5⟩
    unfold Sm.tval
    clear p0 p1 p2 q0 q1 q2
    have A5 := Lib.hid (A4.out.below hB5)
    have G5 := Lib.hid (G4.out.below hB5)
    obtain ⟨p0, p1, p2⟩ := A5.out
    obtain ⟨q0, q1, q2⟩ := G5.out
    have hB5 := Lib.hid (hB4.out.trans (hB5.mono z4.out))
    have z5 := Lib.hid hB5.out.size
    clear hB4 z4 A4 G4
    go_wp2_with fail
    refine (C1.out _).mono ?_
    rintro e w6 ⟨rfl, hB6⟩
    unfold Sm.dval
    clear p0 p1 p2 q0 q1 q2
    have A6 := Lib.hid (A5.out.below hB6)
    have G6 := Lib.hid (G5.out.below hB6)
    obtain ⟨p0, p1, p2⟩ := A6.out
    obtain ⟨q0, q1, q2⟩ := G6.out
    have hB6 := Lib.hid (hB5.out.trans (hB6.mono z5.out))
    have z6 := Lib.hid hB6.out.size
    clear hB5 z5 A5 G5
    go_wp2_with fail
    refine (N1.out _).mono ?_
    rintro e w7 ⟨rfl, hB7⟩
    unfold Sm.nval
    clear p0 p1 p2 q0 q1 q2
    have A7 := Lib.hid ((A6.out.alloc _).below hB7)
    have G7 := Lib.hid ((G6.out.alloc _).below hB7)
    have X7 := Lib.hid ((Has2.new w6 (.int .i64 m) (.string T) 23).below hB7)
    obtain ⟨p0, p1, p2⟩ := A7.out
    obtain ⟨q0, q1, q2⟩ := G7.out
    obtain ⟨r0, r1, r2⟩ := X7.out
    have hB7 := Lib.hid ((hB6.out.alloc z6.out _).trans (hB7.mono (Nat.le_trans z6.out (by simp))))
    have z7 := Lib.hid hB7.out.size
    clear hB6 z6 A6 G6
    go_wp2_with fail
    have ew : IntKind.i64.wrap ((F.size : Int) + (E.size : Int)) = (F.size : Int) + (E.size : Int) := IntWalk.i64_in _ (by omega)
    go_quiet ((go_at_call 26; exact Calls.quiet_same (D1.out _)))
    go_wp2
    go_ret
    exact ⟨rfl, (hB7.out.alloc z7.out _).trans ⟨rfl, rfl, rfl, Nat.le_refl _, fun _ _ => rfl⟩⟩
  · skip
    have hEG := hne hs
    clear hne heq hm hn hm' hn'
    go_enter Try.func6, Try.ntmps6
    go_wp2_with fail
    refine (ssane_any _).mono ?_
    rintro e w1 ⟨rfl, hB1⟩
    go_wp2_with fail
    refine (M1.out _).mono ?_
    rintro e w' ⟨rfl, rfl⟩
    go_wp2_with fail
    refine (S1.out _).mono ?_
    rintro e w2 ⟨rfl, hB2⟩
    unfold Sm.sval
    have z2 := Lib.hid (Nat.le_trans hB1.size hB2.size)
    have hB2 := Lib.hid (hB1.trans (hB2.mono hB1.size))
    clear hB1
    go_wp2_with fail
    refine (M2.out _).mono ?_
    rintro e w' ⟨rfl, rfl⟩
    go_wp2_with fail
    refine (S2.out _).mono ?_
    rintro e w3 ⟨rfl, hB3⟩
    unfold Sm.sval
    have A3 := Lib.hid ((Has2.new w2 (.int .i64 m) (.string T) 23).below hB3)
    obtain ⟨p0, p1, p2⟩ := A3.out
    have hB3 := Lib.hid ((hB2.out.alloc z2.out _).trans (hB3.mono (Nat.le_trans z2.out (by simp))))
    clear hB2 z2
    have z3 := Lib.hid hB3.out.size
    go_wp2_with fail
    refine (E1.out _).mono ?_
    rintro e w4 ⟨rfl, hB4⟩
    unfold Sm.tval
    clear p0 p1 p2
    have A4 := Lib.hid ((A3.out.alloc _).below hB4)
    have G4 := Lib.hid ((Has2.new w3 (.int .i64 n) (.string U) 23).below hB4)
    obtain ⟨p0, p1, p2⟩ := A4.out
    obtain ⟨q0, q1, q2⟩ := G4.out
    have hB4 := Lib.hid ((hB3.out.alloc z3.out _).trans (hB4.mono (Nat.le_trans z3.out (by simp))))
    have z4 := Lib.hid hB4.out.size
    clear hB3 z3 A3
    go_wp2_with fail
    refine (E2.out _).mono ?_
    rintro e w5 ⟨rfl, hB5⟩
    unfold Sm.tval
    clear p0 p1 p2 q0 q1 q2
    have A5 := Lib.hid (A4.out.below hB5)
    have G5 := Lib.hid (G4.out.below hB5)
    obtain ⟨p0, p1, p2⟩ := A5.out
    obtain ⟨q0, q1, q2⟩ := G5.out
    have hB5 := Lib.hid (hB4.out.trans (hB5.mono z4.out))
    have z5 := Lib.hid hB5.out.size
    clear hB4 z4 A4 G4
    go_wp2_with fail
    refine (C1.out _).mono ?_
    rintro e w6 ⟨rfl, hB6⟩
    unfold Sm.dval
    clear p0 p1 p2 q0 q1 q2
    have A6 := Lib.hid (A5.out.below hB6)
    have G6 := Lib.hid (G5.out.below hB6)
    obtain ⟨p0, p1, p2⟩ := A6.out
    obtain ⟨q0, q1, q2⟩ := G6.out
    have hB6 := Lib.hid (hB5.out.trans (hB6.mono z5.out))
    have z6 := Lib.hid hB6.out.size
    clear hB5 z5 A5 G5
    go_wp2_with fail
    refine (N1.out _).mono ?_
    rintro e w7 ⟨rfl, hB7⟩
    unfold Sm.nval
    clear p0 p1 p2 q0 q1 q2
    have A7 := Lib.hid ((A6.out.alloc _).below hB7)
    have G7 := Lib.hid ((G6.out.alloc _).below hB7)
    have X7 := Lib.hid ((Has2.new w6 (.int .i64 m) (.string T) 23).below hB7)
    obtain ⟨p0, p1, p2⟩ := A7.out
    obtain ⟨q0, q1, q2⟩ := G7.out
    obtain ⟨r0, r1, r2⟩ := X7.out
    have hB7 := Lib.hid ((hB6.out.alloc z6.out _).trans (hB7.mono (Nat.le_trans z6.out (by simp))))
    have z7 := Lib.hid hB7.out.size
    clear hB6 z6 A6 G6
    have hst := str_ne hEG
    clear hEG
    have hmn : (m == n && (T.toList == U.toList)) = false := by
      by_cases h : m = n
      · have := str_ne (fun h2 => hs ⟨h, h2⟩)
        rw [this, Bool.and_false]
      · rw [beq_eq_false_iff_ne.2 h, Bool.false_and]
    go_wp2_with fail
    have hq : ∀ W, (Op.equalIn 10000 23 (.agg #[.int .i64 m, .string T]) (.agg #[.int .i64 n, .string U])).run Try.prog W = .ok false W := fun W => by rw [sealed_eq, hmn]
    clear hmn hs
    have ew : IntKind.i64.wrap ((F.size : Int) + (E.size : Int)) = (F.size : Int) + (E.size : Int) := IntWalk.i64_in _ (by omega)
    go_quiet ((go_at_call 26; exact Calls.quiet_same (D1.out _)))
    go_wp2
    go_ret
    exact ⟨rfl, (hB7.out.alloc z7.out _).trans ⟨rfl, rfl, rfl, Nat.le_refl _, fun _ _ => rfl⟩⟩

end Go.Proofs.Ytapmdneepinbgaa
