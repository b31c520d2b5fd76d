/-
  Words with a sign between them, parted at that sign; no program is named here.
-/
import Derived.Test.YtkmbhgbmdeoppabSpecIx
import Derived.Lib.SplitLaws
namespace Go.Proofs.Ytkmbhgbmdeoppab
open Go.RowKit

theorem index_none_byte (d : UInt8) (l : List UInt8) (h : ∀ b ∈ l, b ≠ d) : Lib.index l [d] = -1 := by
  rw [Lib.index_one]
  induction l with
  | nil => rfl
  | cons b l ih =>
    have hb : (b == d) = false := by simpa using h b (List.mem_cons_self ..)
    rw [Lib.indexByte, hb, ih fun x hx => h x (List.mem_cons_of_mem _ hx)]; rfl
def wordsB (d : UInt8) (ws : List (List UInt8)) : List UInt8 := ws.flatMap fun x => d :: x
theorem wordsB_cons (d : UInt8) (x : List UInt8) (ws : List (List UInt8)) : wordsB d (x :: ws) = d :: (x ++ wordsB d ws) := by simp [wordsB]
theorem split_words (d : UInt8) (ws : List (List UInt8)) : ∀ w0 : List UInt8, (∀ b ∈ w0, b ≠ d) → (∀ x ∈ ws, ∀ b ∈ x, b ≠ d) → Lib.count (w0 ++ wordsB d ws) [d] = ws.length ∧ Lib.splitK [d] 0 ws.length (w0 ++ wordsB d ws) = w0 :: ws := by
  induction ws with
  | nil =>
    intro w0 h0 _
    have hi := index_none_byte d w0 h0
    simp only [wordsB, List.flatMap_nil, List.append_nil, List.length_nil]
    exact ⟨Lib.count_miss hi, rfl⟩
  | cons x ws ih =>
    intro w0 h0 h
    have hi := index_byte_at d w0 (x ++ wordsB d ws) h0
    obtain ⟨h1, h2⟩ := ih x (h x (List.mem_cons_self ..)) fun y hy => h y (List.mem_cons_of_mem _ hy)
    rw [wordsB_cons]
    have hd : (w0 ++ d :: (x ++ wordsB d ws)).drop (w0.length + [d].length) = x ++ wordsB d ws := by
      rw [show w0 ++ d :: (x ++ wordsB d ws) = (w0 ++ [d]) ++ (x ++ wordsB d ws) by simp]
      exact List.drop_left' (by simp)
    refine ⟨?_, ?_⟩
    · rw [Lib.count_hit (by simp) hi, hd, h1, List.length_cons]; omega
    · rw [List.length_cons, Lib.splitK, hi]
      have hne : ((w0.length : Int) == -1) = false := by rw [beq_eq_false_iff_ne]; omega
      rw [hne, Int.toNat_natCast, hd, h2, Nat.add_zero, List.take_left' rfl]; rfl
/-- The row of parts of a text. -/
theorem splitB_words (d : UInt8) (s : ByteArray) (w0 : List UInt8) (ws : List (List UInt8)) (hs : s.data.toList = w0 ++ wordsB d ws) (h0 : ∀ b ∈ w0, b ≠ d) (h : ∀ x ∈ ws, ∀ b ∈ x, b ≠ d) :
    Lib.countB s ⟨#[d]⟩ = ws.length ∧ Lib.splitB ⟨#[d]⟩ 0 (Lib.countB s ⟨#[d]⟩) s = (w0 :: ws).map fun l => ⟨l.toArray⟩ := by
  obtain ⟨h1, h2⟩ := split_words d ws w0 h0 h
  have hc : Lib.countB s ⟨#[d]⟩ = ws.length := by
    show Lib.count s.data.toList [d] = _
    rw [hs, h1]
  refine ⟨hc, ?_⟩
  rw [hc]
  have := Lib.splitB_data ⟨#[d]⟩ 0 ws.length s
  rw [show (⟨#[d]⟩ : ByteArray).data.toList = [d] from rfl, hs, h2] at this
  rw [← this, List.map_map]
  conv => lhs; rw [← List.map_id (Lib.splitB ⟨#[d]⟩ 0 ws.length s)]
  exact List.map_congr_left fun x _ => rfl
end Go.Proofs.Ytkmbhgbmdeoppab
