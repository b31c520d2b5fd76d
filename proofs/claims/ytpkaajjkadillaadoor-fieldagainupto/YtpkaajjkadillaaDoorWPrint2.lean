/-
  What Print, Parse and Check of package field compute, each over what its plain function gives.
-/
import Derived.Test.YtpkaajjkadillaaDoorWPrint
import Derived.Test.YtpkaajjkadillaaDoorWParse
import Derived.Test.YtpkaajjkadillaaDoorSpecBk
namespace Go.Proofs.YtpkaajjkadillaaDoor
open Go.RowKit

theorem print_at (t : ByteArray) (c : Int) (v : Value) (ls : List Fld) (h : prtS ls = (t.data.toList, c)) (w : World) (hf : Fl w v ls) (hm : Most maxLen ls) :
    Calls Tryd.prog 10 #[v] w fun e w' => e = .returned (.tuple #[.string t, .int .i64 c]) ∧ Below w.heap.size w w' := by
  have := print_any v ls w hf hm
  rw [h] at this
  exact this
theorem parse_at (s : ByteArray) (fs : List Fld) (rest : List UInt8) (c n : Int) (h : parS s.data.toList [] = (fs, rest, c)) (hn : parN s.data.toList = n) (m : Int) (w : World) (hm : w.cell? ⟨0, 0, none⟩ = some (.int .i64 m)) (hs : s.size < 4294967281) :
    Calls Tryd.prog 7 #[.string s] w fun e w' => ∃ v, e = .returned (.tuple #[v, .int .i64 n, .int .i64 c]) ∧
      w'.ownsRow w.heap.size 28 2 v fs.length (flds fs) ∧ Below w.heap.size w w' := by
  have := parse_any s m w hm hs
  rw [h, hn] at this
  exact this
theorem check_at (c : Int) (v : Value) (ls : List Fld) (h : chk ls = c) (w : World) (hf : Fl w v ls) (hm : Most maxLen ls) :
    Calls Tryd.prog 11 #[v] w fun e w' => e = .returned (.int .i64 c) ∧ Below w.heap.size w w' := by
  rw [← h]; exact check_any v ls w hf hm
/-- A list of one field without name and value, just made. -/
theorem Fl.zero (w : World) (t : TypeId) : Fl (w.alloc (.cells #[.string ⟨#[]⟩, .string ⟨#[]⟩] t)) (.slice (some ⟨w.heap.size, 0, none⟩) 1 1) [([], [])] := by
  refine ⟨some ⟨w.heap.size, 0, none⟩, 1, rfl, Nat.le_refl _, by unfold maxLen; omega, fun _ => ⟨w.heap.size, 0, rfl, by simp, fun k hk => ?_⟩⟩
  obtain rfl : k = 0 := by simpa using hk
  exact ⟨by simp, by simp⟩
theorem Most.zero : Most maxLen [([], [])] := by
  intro x hx
  rw [List.mem_singleton.1 hx]
  exact ⟨Nat.zero_le _, Nat.zero_le _⟩
theorem chk_zero1 : chk [([], [])] = 3 := rfl
end Go.Proofs.YtpkaajjkadillaaDoor
