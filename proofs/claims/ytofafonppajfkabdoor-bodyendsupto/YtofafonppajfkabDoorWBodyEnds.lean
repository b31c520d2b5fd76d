/-
  The walk through BodyEnds: it answers true and turns nothing that was there; what comes in is of bulk at most 1048576.
-/
import Derived.Test.YtofafonppajfkabDoorWKind
import Derived.Test.YtofafonppajfkabDoorWWide
namespace Go.Proofs.YtofafonppajfkabDoor
open Go.RowKit

theorem kindU_at (req : Bool) (m : ByteArray) (c : Int) (v : Value) (ls : List Fld) (x y z : Int) (h : kd req m.data.toList c ls = (x, y, z)) (w : World) (hf : Fl w v ls) (hl : bulkF ls ≤ 1048576) (hT : STabs w) :
    Calls Tryd.prog 12 #[.bool req, .string m, .int .i64 c, v] w fun e w' => e = .returned (.tuple #[.int .i64 x, .int .i64 y, .int .i64 z]) ∧ Below w.heap.size w w' :=
  kind_go req m c v ls x y z h w hf (wide_bulk ls hl) (fun s => Nat.le_trans (Nat.le_trans (jn_bulk ls s) hl) (by decide)) hT

theorem kdL_shape (t : List UInt8) : (∃ n, kdL t = (2, n, 0) ∧ 0 ≤ n ∧ n ≤ 5000) ∨ ∃ e, kdL t = (0, 0, e) ∧ (e = 10 ∨ e = 2) := by
  unfold kdL
  split
  · cases (splitS t).1 with
    | nil => exact Or.inr ⟨10, rfl, Or.inl rfl⟩
    | cons p r =>
      cases ha : r.all (· == p)
      · exact Or.inr ⟨10, kdP_diff p r ha, Or.inl rfl⟩
      · rw [kdP_same p r ha]
        cases h2 : (rdLn p).2
        · exact Or.inr ⟨10, rfl, Or.inl rfl⟩
        · by_cases h3 : 5000 < (rdLn p).1
          · exact Or.inr ⟨2, by simp only [if_true]; rw [if_pos h3], Or.inr rfl⟩
          · exact Or.inl ⟨(rdLn p).1, by simp only [if_true]; rw [if_neg h3], (rdLn_bd p h2).1, by omega⟩
  · exact Or.inr ⟨10, rfl, Or.inl rfl⟩
theorem kd_shape (req : Bool) (m : List UInt8) (c : Int) (ls : List Fld) : (∃ e, kd req m c ls = (0, 0, e) ∧ e ≠ 0) ∨ kd req m c ls = (1, 0, 0) ∨ kd req m c ls = (3, 0, 0) ∨ (kd req m c ls = (4, 0, 0) ∧ req = false) ∨ ∃ n, kd req m c ls = (2, n, 0) ∧ 0 ≤ n ∧ n ≤ 5000 := by
  unfold kd
  split
  · exact Or.inr (Or.inl rfl)
  · split
    · split
      · exact Or.inl ⟨10, rfl, by decide⟩
      · exact Or.inr (Or.inr (Or.inl rfl))
    · split
      · rcases kdL_shape (jn (vals ls clN)) with ⟨n, h1, h2⟩ | ⟨e, h1, h2⟩
        · exact Or.inr (Or.inr (Or.inr (Or.inr ⟨n, h1, h2⟩)))
        · exact Or.inl ⟨e, h1, by omega⟩
      · split
        · exact Or.inr (Or.inl rfl)
        · rename_i h
          exact Or.inr (Or.inr (Or.inr (Or.inl ⟨rfl, by simpa using h⟩)))

set_option maxHeartbeats 1000000 in
set_option maxRecDepth 100000 in
theorem walkBodyEnds (a0 : Bool) (a1 : ByteArray) (a2 : Int) (a3 : Value) (l3 : List Fld) (w : World) (_z1 : a1.size ≤ 1048576) (_z2 : (Lit.int .i64 a2).wf = true) (z3 : Fl w a3 l3) (b3 : bulkF l3 ≤ 1048576) (ht : STabs w) :
    Calls Tryd.prog 5 #[.bool a0, .string a1, .int .i64 a2, a3] w fun e w' => e = .returned (.bool true) ∧ Below w.heap.size w w' := by
  have HZ : Hid (Fl w a3 l3) := z3
  have HB : Hid (bulkF l3 ≤ 1048576) := b3
  have HT : Hid (STabs w) := ht
  obtain ⟨x, y, z, hk⟩ : ∃ x y z, kd a0 a1.data.toList a2 l3 = (x, y, z) := ⟨_, _, _, rfl⟩
  have HK : Hid (kd a0 a1.data.toList a2 l3 = (x, y, z)) := hk
  have hs := kd_shape a0 a1.data.toList a2 l3
  rw [hk] at hs
  have HS : Hid (z ≠ 0 ∧ x = 0 ∧ y = 0 ∨ z = 0 ∧ (x = 1 ∧ y = 0 ∨ x = 3 ∧ y = 0 ∨ x = 4 ∧ y = 0 ∧ a0 = false ∨ x = 2 ∧ 0 ≤ y ∧ y ≤ 5000)) := by
    simp only [Prod.mk.injEq] at hs
    show _ ∨ _
    rcases hs with ⟨e, ⟨rfl, rfl, rfl⟩, h⟩ | ⟨rfl, rfl, rfl⟩ | ⟨rfl, rfl, rfl⟩ | ⟨⟨rfl, rfl, rfl⟩, h⟩ | ⟨n, ⟨rfl, rfl, rfl⟩, h1, h2⟩
    · exact Or.inl ⟨h, rfl, rfl⟩
    · exact Or.inr ⟨rfl, Or.inl ⟨rfl, rfl⟩⟩
    · exact Or.inr ⟨rfl, Or.inr (Or.inl ⟨rfl, rfl⟩)⟩
    · exact Or.inr ⟨rfl, Or.inr (Or.inr (Or.inl ⟨rfl, rfl, h⟩))⟩
    · exact Or.inr ⟨rfl, Or.inr (Or.inr (Or.inr ⟨rfl, h1, h2⟩))⟩
  clear z3 b3 ht hk hs
  go_enter Tryd.func5, Tryd.ntmps5
  go_wp2_with fail
  refine (kindU_at a0 a1 a2 a3 l3 x y z HK.out _ HZ.out HB.out HT.out).mono ?_
  rintro e w1 ⟨rfl, hb1⟩
  go_wp2_with fail
  refine (kindU_at false _ 200 _ [] 4 0 0 (by decide +kernel) _ (Fl.nil _) (by decide) (HT.out.below hb1)).mono ?_
  rintro e w2 ⟨rfl, hb2⟩
  have hbb := hb1.trans (hb2.mono hb1.size)
  clear hb1 hb2
  rcases HS.out with ⟨h0, rfl, rfl⟩ | ⟨rfl, ⟨rfl, rfl⟩ | ⟨rfl, rfl⟩ | ⟨rfl, rfl, rfl⟩ | ⟨rfl, h1, h2⟩⟩
  · cases a0 <;> (go_wp2_with fail; go_ret; exact ⟨ret_bool (by simp), hbb⟩)
  · cases a0 <;> (go_wp2_with fail; go_ret; exact ⟨ret_bool (by simp), hbb⟩)
  · cases a0 <;> (go_wp2_with fail; go_ret; exact ⟨ret_bool (by simp), hbb⟩)
  · go_wp2_with fail
    go_ret
    exact ⟨ret_bool (by simp), hbb⟩
  · by_cases h3 : y = 0
    · subst h3
      cases a0 <;> (go_wp2_with fail; go_ret; exact ⟨ret_bool (by first | (simp; done) | (simp; omega)), hbb⟩)
    · cases a0 <;> (go_wp2_with fail; go_ret; exact ⟨ret_bool (by first | (simp; done) | (simp; omega)), hbb⟩)
end Go.Proofs.YtofafonppajfkabDoor
