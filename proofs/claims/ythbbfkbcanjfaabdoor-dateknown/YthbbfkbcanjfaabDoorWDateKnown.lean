/-
  The walk through DateKnown: it answers true; the tables that Print reads hold what the program's text lays there.
-/
import Derived.Test.YthbbfkbcanjfaabDoorWDPrint
namespace Go.Proofs.YthbbfkbcanjfaabDoor
open Go.RowKit

def known1 : List UInt8 := [83, 117, 110, 44, 32, 48, 54, 32, 78, 111, 118, 32, 49, 57, 57, 52, 32, 48, 56, 58, 52, 57, 58, 51, 55, 32, 71, 77, 84]
def known2 : List UInt8 := [84, 117, 101, 44, 32, 50, 57, 32, 70, 101, 98, 32, 50, 48, 48, 48, 32, 48, 48, 58, 48, 48, 58, 48, 48, 32, 71, 77, 84]
def known3 : List UInt8 := [84, 104, 117, 44, 32, 48, 49, 32, 74, 97, 110, 32, 49, 57, 55, 48, 32, 48, 48, 58, 48, 48, 58, 48, 48, 32, 71, 77, 84]

theorem print_at (n y m d : Int) (l : List UInt8) (w : World) (h1 : 0 ≤ n) (h2 : n ≤ 253402300799) (hv : vldB y m d = true) (hn : num y m d = n / 86400) (hl : dtext n y m d = l) (ht : DTabs w) :
    Calls Tryd.prog 6 #[.int .i64 n] w fun e w' => e = .returned (.tuple #[.string ⟨l.toArray⟩, .int .i64 0]) ∧ Below w.heap.size w w' := by
  refine (dprint_yes n w h1 h2 ht).mono ?_
  rintro e w' ⟨y', m', d', rfl, hv', hn', hb⟩
  obtain ⟨rfl, rfl, rfl⟩ := num_inj hv' hv (hn'.trans hn.symm)
  rw [hl]
  exact ⟨rfl, hb⟩

set_option maxHeartbeats 1000000 in
set_option maxRecDepth 100000 in
theorem walkDateKnown (w : World) (ht : DTabs w) :
    Calls Tryd.prog 4 #[] w fun e w' => e = .returned (.bool true) ∧ Below w.heap.size w w' := by
  have HT : Hid (DTabs w) := ht
  clear ht
  go_enter Tryd.func4, Tryd.ntmps4
  go_wp2_with fail
  refine (print_at 784111777 1994 11 6 known1 _ (by decide) (by decide) (by decide) (by decide) (by decide) HT.out).mono ?_
  rintro e w1 ⟨rfl, hb1⟩
  have HT1 : Hid (DTabs w1) := HT.out.below hb1
  go_wp2_with fail
  refine (print_at 951782400 2000 2 29 known2 _ (by decide) (by decide) (by decide) (by decide) (by decide) HT1.out).mono ?_
  rintro e w2 ⟨rfl, hb2⟩
  have HT2 : Hid (DTabs w2) := HT1.out.below hb2
  go_wp2_with fail
  refine (print_at 0 1970 1 1 known3 _ (by decide) (by decide) (by decide) (by decide) (by decide) HT2.out).mono ?_
  rintro e w3 ⟨rfl, hb3⟩
  have HB : Hid (Below w.heap.size w w3) := hb1.trans ((hb2.trans (hb3.mono hb2.size)).mono hb1.size)
  clear hb1 hb2 hb3
  unfold known1 known2 known3
  go_wp2_with fail
  go_ret
  exact ⟨rfl, HB.out⟩
end Go.Proofs.YthbbfkbcanjfaabDoor
