/-
  The walk through TagOrder: it answers true and turns nothing that was there.
-/
import Derived.Test.YtfeikdplfjikeaaWEgP
import Derived.Test.YtfeikdplfjikeaaSpecQr
namespace Go.Proofs.Ytfeikdplfjikeaa
open Go.RowKit

theorem tag_order (a b c : List UInt8) (k l m : Bool) :
    ((a == b) = false ∧ (!k && (!l && (a == b))) = false) ∨ ((a == b) = true ∧ (!k && (!l && (a == b))) = false ∧ (b == c) = false) ∨
    ((a == b) = true ∧ (!k && (!l && (a == b))) = true ∧ (b == c) = false ∧ (!l && (!m && (b == c))) = false) ∨
    ((a == b) = true ∧ (b == c) = true ∧ (a == c) = true ∧ (!k && (!l && (a == b))) = false) ∨
    ((a == b) = true ∧ (b == c) = true ∧ (a == c) = true ∧ (!k && (!l && (a == b))) = true ∧ (!l && (!m && (b == c))) = false) ∨
    ((a == b) = true ∧ (b == c) = true ∧ (a == c) = true ∧ (!k && (!l && (a == b))) = true ∧ (!l && (!m && (b == c))) = true ∧ (!k && (!m && (a == c))) = true) := by
  by_cases h1 : a = b
  · subst h1
    by_cases h2 : a = c
    · subst h2
      cases k <;> cases l <;> cases m <;> simp
    · have : (a == c) = false := beq_eq_false_iff_ne.2 h2
      rw [this]
      cases k <;> cases l <;> cases m <;> simp
  · have : (a == b) = false := beq_eq_false_iff_ne.2 h1
    rw [this]
    cases k <;> cases l <;> simp
theorem beq_turn (a b : List UInt8) : (b == a) = (a == b) := by
  by_cases h : a = b
  · subst h; rfl
  · rw [beq_eq_false_iff_ne.2 h, beq_eq_false_iff_ne.2 (Ne.symm h)]
theorem three_tags (w : World) (t : TypeId) (a b c d e f : Value) :
    (((w.alloc (.cells #[a, b] t)).alloc (.cells #[c, d] t)).alloc (.cells #[e, f] t)).cell? ⟨w.heap.size, 0, none⟩ = some a ∧
    (((w.alloc (.cells #[a, b] t)).alloc (.cells #[c, d] t)).alloc (.cells #[e, f] t)).cell? ⟨w.heap.size, 1, none⟩ = some b ∧
    (((w.alloc (.cells #[a, b] t)).alloc (.cells #[c, d] t)).alloc (.cells #[e, f] t)).cell? ⟨w.heap.size + 1, 0, none⟩ = some c ∧
    (((w.alloc (.cells #[a, b] t)).alloc (.cells #[c, d] t)).alloc (.cells #[e, f] t)).cell? ⟨w.heap.size + 1, 1, none⟩ = some d ∧
    (((w.alloc (.cells #[a, b] t)).alloc (.cells #[c, d] t)).alloc (.cells #[e, f] t)).cell? ⟨w.heap.size + 2, 0, none⟩ = some e ∧
    (((w.alloc (.cells #[a, b] t)).alloc (.cells #[c, d] t)).alloc (.cells #[e, f] t)).cell? ⟨w.heap.size + 2, 1, none⟩ = some f := by
  have n1 : w.heap.size < (w.alloc (.cells #[a, b] t)).heap.size := by simp
  have n2 : w.heap.size + 1 < ((w.alloc (.cells #[a, b] t)).alloc (.cells #[c, d] t)).heap.size := by simp
  have n3 : w.heap.size < ((w.alloc (.cells #[a, b] t)).alloc (.cells #[c, d] t)).heap.size := by simp; omega
  have e : w.heap.size + 2 = ((w.alloc (.cells #[a, b] t)).alloc (.cells #[c, d] t)).heap.size := by simp
  refine ⟨?_, ?_, ?_, ?_, ?_, ?_⟩
  · rw [World.cell?_alloc_lt _ _ ⟨w.heap.size, 0, none⟩ n3]; simp
  · rw [World.cell?_alloc_lt _ _ ⟨w.heap.size, 1, none⟩ n3]; simp
  · rw [World.cell?_alloc_lt _ _ ⟨w.heap.size + 1, 0, none⟩ n2]; simp
  · rw [World.cell?_alloc_lt _ _ ⟨w.heap.size + 1, 1, none⟩ n2]; simp
  · rw [e, World.cell?_alloc_new]; simp
  · rw [e, World.cell?_alloc_new]; simp
set_option maxHeartbeats 4000000 in
set_option maxRecDepth 100000 in
theorem walkTagOrder (b0 : Bool) (a0 : ByteArray) (b1 : Bool) (a1 : ByteArray) (b2 : Bool) (a2 : ByteArray) (w : World) (_z0 : a0.size ≤ maxLen) (_z1 : a1.size ≤ maxLen) (_z2 : a2.size ≤ maxLen) :
    Calls Try.prog 5 #[.agg #[.bool b0, .string a0], .agg #[.bool b1, .string a1], .agg #[.bool b2, .string a2]] w fun e w' => e = .returned (.bool true) ∧ Below w.heap.size w w' := by
  clear _z0 _z1 _z2
  obtain ⟨ab, hab⟩ : ∃ b, (a0.toList == a1.toList) = b := ⟨_, rfl⟩
  obtain ⟨bc, hbc⟩ : ∃ b, (a1.toList == a2.toList) = b := ⟨_, rfl⟩
  obtain ⟨ac, hac⟩ : ∃ b, (a0.toList == a2.toList) = b := ⟨_, rfl⟩
  obtain ⟨sab, hsab⟩ : ∃ b, (!b0 && (!b1 && (a0.toList == a1.toList))) = b := ⟨_, rfl⟩
  obtain ⟨sbc, hsbc⟩ : ∃ b, (!b1 && (!b2 && (a1.toList == a2.toList))) = b := ⟨_, rfl⟩
  obtain ⟨sac, hsac⟩ : ∃ b, (!b0 && (!b2 && (a0.toList == a2.toList))) = b := ⟨_, rfl⟩
  have key := tag_order a0.toList a1.toList a2.toList b0 b1 b2
  rw [hsab, hsbc, hsac, hab, hbc, hac] at key
  have hba : (a1.toList == a0.toList) = ab := by rw [beq_turn]; exact hab
  have hsba : (!b1 && (!b0 && (a1.toList == a0.toList))) = sab := by
    rw [hba, ← hsab, hab]
    cases b0 <;> cases b1 <;> cases ab <;> rfl
  have hsaa : (!b0 && (!b0 && (a0.toList == a0.toList))) = !b0 := by
    rw [beq_self_eq_true]; cases b0 <;> rfl
  have VAB := fun W => eweak_at b0 b1 a0 a1 ab hab W
  have VBA := fun W => eweak_at b1 b0 a1 a0 ab hba W
  have VBC := fun W => eweak_at b1 b2 a1 a2 bc hbc W
  have VAC := fun W => eweak_at b0 b2 a0 a2 ac hac W
  have VAA := fun W => eweak_at b0 b0 a0 a0 true (beq_self_eq_true _) W
  have UAB := fun W => estrong_at b0 b1 a0 a1 sab hsab W
  have UBA := fun W => estrong_at b1 b0 a1 a0 sab hsba W
  have UBC := fun W => estrong_at b1 b2 a1 a2 sbc hsbc W
  have UAC := fun W => estrong_at b0 b2 a0 a2 sac hsac W
  have UAA := fun W => estrong_at b0 b0 a0 a0 (!b0) hsaa W
  clear hab hbc hac hsab hsbc hsac hba hsba hsaa
  have start : ∀ W, Below (w.heap.size + 3) (((w.alloc (.cells #[.bool b0, .string a0] 23)).alloc (.cells #[.bool b1, .string a1] 23)).alloc (.cells #[.bool b2, .string a2] 23)) W →
      W.cell? ⟨w.heap.size, 0, none⟩ = some (.bool b0) ∧ W.cell? ⟨w.heap.size, 1, none⟩ = some (.string a0) ∧ W.cell? ⟨w.heap.size + 1, 0, none⟩ = some (.bool b1) ∧ W.cell? ⟨w.heap.size + 1, 1, none⟩ = some (.string a1) ∧
      W.cell? ⟨w.heap.size + 2, 0, none⟩ = some (.bool b2) ∧ W.cell? ⟨w.heap.size + 2, 1, none⟩ = some (.string a2) ∧ Below w.heap.size w W ∧ w.heap.size + 3 ≤ W.heap.size := by
    intro W h
    obtain ⟨t0, t1, t2, t3, t4, t5⟩ := three_tags w 23 (.bool b0) (.string a0) (.bool b1) (.string a1) (.bool b2) (.string a2)
    refine ⟨(h.cell (p := ⟨w.heap.size, 0, none⟩) (show w.heap.size < w.heap.size + 3 by omega)).trans t0, (h.cell (p := ⟨w.heap.size, 1, none⟩) (show w.heap.size < w.heap.size + 3 by omega)).trans t1, (h.cell (p := ⟨w.heap.size + 1, 0, none⟩) (show w.heap.size + 1 < w.heap.size + 3 by omega)).trans t2, (h.cell (p := ⟨w.heap.size + 1, 1, none⟩) (show w.heap.size + 1 < w.heap.size + 3 by omega)).trans t3,
      (h.cell (p := ⟨w.heap.size + 2, 0, none⟩) (show w.heap.size + 2 < w.heap.size + 3 by omega)).trans t4, (h.cell (p := ⟨w.heap.size + 2, 1, none⟩) (show w.heap.size + 2 < w.heap.size + 3 by omega)).trans t5, ?_, ?_⟩
    · exact ((((Below.refl _ w).alloc (Nat.le_refl _) _).alloc (by simp) _).alloc (by simp; omega) _).trans (h.mono (by omega))
    · have := h.size; simpa using this
  have HST : Hid (∀ W, Below (w.heap.size + 3) (((w.alloc (.cells #[.bool b0, .string a0] 23)).alloc (.cells #[.bool b1, .string a1] 23)).alloc (.cells #[.bool b2, .string a2] 23)) W →
      W.cell? ⟨w.heap.size, 0, none⟩ = some (.bool b0) ∧ W.cell? ⟨w.heap.size, 1, none⟩ = some (.string a0) ∧ W.cell? ⟨w.heap.size + 1, 0, none⟩ = some (.bool b1) ∧ W.cell? ⟨w.heap.size + 1, 1, none⟩ = some (.string a1) ∧
      W.cell? ⟨w.heap.size + 2, 0, none⟩ = some (.bool b2) ∧ W.cell? ⟨w.heap.size + 2, 1, none⟩ = some (.string a2) ∧ Below w.heap.size w W ∧ w.heap.size + 3 ≤ W.heap.size) := start
  clear start
  have HVAB : Hid (∀ W, Calls Try.prog 11 #[.agg #[.bool b0, .string a0], .agg #[.bool b1, .string a1]] W fun e w' => e = .returned (.bool ab) ∧ Below W.heap.size W w') := VAB
  have HVBA : Hid (∀ W, Calls Try.prog 11 #[.agg #[.bool b1, .string a1], .agg #[.bool b0, .string a0]] W fun e w' => e = .returned (.bool ab) ∧ Below W.heap.size W w') := VBA
  have HVBC : Hid (∀ W, Calls Try.prog 11 #[.agg #[.bool b1, .string a1], .agg #[.bool b2, .string a2]] W fun e w' => e = .returned (.bool bc) ∧ Below W.heap.size W w') := VBC
  have HVAC : Hid (∀ W, Calls Try.prog 11 #[.agg #[.bool b0, .string a0], .agg #[.bool b2, .string a2]] W fun e w' => e = .returned (.bool ac) ∧ Below W.heap.size W w') := VAC
  have HVAA : Hid (∀ W, Calls Try.prog 11 #[.agg #[.bool b0, .string a0], .agg #[.bool b0, .string a0]] W fun e w' => e = .returned (.bool true) ∧ Below W.heap.size W w') := VAA
  have HUAB : Hid (∀ W, Calls Try.prog 10 #[.agg #[.bool b0, .string a0], .agg #[.bool b1, .string a1]] W fun e w' => e = .returned (.bool sab) ∧ Below W.heap.size W w') := UAB
  have HUBA : Hid (∀ W, Calls Try.prog 10 #[.agg #[.bool b1, .string a1], .agg #[.bool b0, .string a0]] W fun e w' => e = .returned (.bool sab) ∧ Below W.heap.size W w') := UBA
  have HUBC : Hid (∀ W, Calls Try.prog 10 #[.agg #[.bool b1, .string a1], .agg #[.bool b2, .string a2]] W fun e w' => e = .returned (.bool sbc) ∧ Below W.heap.size W w') := UBC
  have HUAC : Hid (∀ W, Calls Try.prog 10 #[.agg #[.bool b0, .string a0], .agg #[.bool b2, .string a2]] W fun e w' => e = .returned (.bool sac) ∧ Below W.heap.size W w') := UAC
  have HUAA : Hid (∀ W, Calls Try.prog 10 #[.agg #[.bool b0, .string a0], .agg #[.bool b0, .string a0]] W fun e w' => e = .returned (.bool (!b0)) ∧ Below W.heap.size W w') := UAA
  clear VAB VBA VBC VAC VAA UAB UBA UBC UAC UAA
  go_enter Try.func5, Try.ntmps5
  go_wp2_with fail
  refine (eweak_at false true ⟨#[120]⟩ ⟨#[120]⟩ true (by rw [ByteArray.toList_eq]; rfl) _).mono ?_
  rintro e w1 ⟨rfl, hb1⟩
  go_wp2_with fail
  refine (estrong_at false true ⟨#[120]⟩ ⟨#[120]⟩ false (by rw [ByteArray.toList_eq]; rfl) _).mono ?_
  rintro e w2 ⟨rfl, hb2⟩
  have hb3 := hb1.trans (hb2.mono hb1.size)
  have hb4 : Below (w.heap.size + 3) _ w2 := hb3.mono (by simp)
  have hsz := (HST.out w2 hb4).2.2.2.2.2.2.2
  clear hb1 hb2 hb3
  obtain ⟨T, G, x0, rfl, HG1, HG2, HG3⟩ := below_class w2
  haveI : Nonempty T := ⟨x0⟩
  have hall := fun x => HST.out (G x) (hb4.trans ((HG1.out x).mono hsz))
  have hc0 : ∀ x, (G x).cell? ⟨w.heap.size, 0, none⟩ = some (.bool b0) := fun x => (hall x).1
  have hc1 : ∀ x, (G x).cell? ⟨w.heap.size, 1, none⟩ = some (.string a0) := fun x => (hall x).2.1
  have hc2 : ∀ x, (G x).cell? ⟨w.heap.size + 1, 0, none⟩ = some (.bool b1) := fun x => (hall x).2.2.1
  have hc3 : ∀ x, (G x).cell? ⟨w.heap.size + 1, 1, none⟩ = some (.string a1) := fun x => (hall x).2.2.2.1
  have hc4 : ∀ x, (G x).cell? ⟨w.heap.size + 2, 0, none⟩ = some (.bool b2) := fun x => (hall x).2.2.2.2.1
  have hc5 : ∀ x, (G x).cell? ⟨w.heap.size + 2, 1, none⟩ = some (.string a2) := fun x => (hall x).2.2.2.2.2.1
  have HBW : Hid (∀ x, Below w.heap.size w (G x)) := fun x => (hall x).2.2.2.2.2.2.1
  clear hall hb4 hsz
  rcases key with ⟨rfl, rfl⟩ | ⟨rfl, rfl, rfl⟩ | ⟨rfl, rfl, rfl, rfl⟩ | ⟨rfl, rfl, rfl, rfl⟩ | ⟨rfl, rfl, rfl, rfl, rfl⟩ | ⟨rfl, rfl, rfl, rfl, rfl, rfl⟩
  all_goals
    go_wp2_with fail
    refine region_in G (by kernel_rfl) (by kernel_rfl) (HG3.out _) ?_
    repeat (go_big_quiet_step (first
      | (go_at_call 11; with_reducible first | exact (HVAB.out _).mono fun e W h => ⟨h.1, HG2.out _ W h.2⟩ | exact (HVBA.out _).mono fun e W h => ⟨h.1, HG2.out _ W h.2⟩)
      | (go_at_call 10; with_reducible first | exact (HUAB.out _).mono fun e W h => ⟨h.1, HG2.out _ W h.2⟩ | exact (HUBA.out _).mono fun e W h => ⟨h.1, HG2.out _ W h.2⟩)))
    refine wpQuiet_nil ?_
    rintro _ ⟨x1, rfl⟩
    go_wp2_with fail
    refine region_in G (by kernel_rfl) (by kernel_rfl) (HG3.out _) ?_
    repeat (go_big_quiet_step (first
      | (go_at_call 11; with_reducible first | exact (HVAB.out _).mono fun e W h => ⟨h.1, HG2.out _ W h.2⟩ | exact (HVBC.out _).mono fun e W h => ⟨h.1, HG2.out _ W h.2⟩ | exact (HVAC.out _).mono fun e W h => ⟨h.1, HG2.out _ W h.2⟩ | exact (HVAA.out _).mono fun e W h => ⟨h.1, HG2.out _ W h.2⟩)
      | (go_at_call 10; with_reducible first | exact (HUAB.out _).mono fun e W h => ⟨h.1, HG2.out _ W h.2⟩ | exact (HUBC.out _).mono fun e W h => ⟨h.1, HG2.out _ W h.2⟩ | exact (HUAC.out _).mono fun e W h => ⟨h.1, HG2.out _ W h.2⟩ | exact (HUAA.out _).mono fun e W h => ⟨h.1, HG2.out _ W h.2⟩)))
    refine wpQuiet_nil ?_
    rintro _ ⟨x2, rfl⟩
    go_wp2_with fail
    go_ret
    exact ⟨by simp, HBW.out _⟩
end Go.Proofs.Ytfeikdplfjikeaa
