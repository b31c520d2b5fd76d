/-
  The walk through DateWeek: it answers true, whatever number comes in; the tables that Print reads hold what the program's text lays there.
-/
import Derived.Test.YthbbfkbcanjfaabDoorWDPrint
import Derived.Test.YthbbfkbcanjfaabDoorWRest
import Derived.Deep.QuietTactic
import Derived.BigQuiet
namespace Go.Proofs.YthbbfkbcanjfaabDoor
open Go.RowKit

theorem size_mk (l : List UInt8) : (⟨l.toArray⟩ : ByteArray).size = l.length := by rw [← size_list]
theorem extract_mk (l : List UInt8) (i j : Nat) : (⟨l.toArray⟩ : ByteArray).extract i j = ⟨((l.drop i).take (j - i)).toArray⟩ := by
  apply ByteArray.ext
  rw [ByteArray.data_extract]
  apply Array.ext'
  simp [List.extract_eq_take_drop]

theorem week_head (n y m d : Int) (z k c : Int) : ((dtext n y m d).drop 0).take 3 = ((dtext (n + 604800) z k c).drop 0).take 3 := by
  have e : (n + 604800) / 86400 % 7 = n / 86400 % 7 := by omega
  unfold dtext
  rw [e]
  have h := week_len (n / 86400 % 7).toNat (by omega)
  simp only [List.drop_zero, List.append_assoc]
  rw [List.take_append_of_le_length (by omega), List.take_append_of_le_length (by omega)]

theorem drop_app (a b : List UInt8) (n : Nat) (h : a.length = n) : (a ++ b).drop n = b := by rw [← h, List.drop_left]

theorem dtext_tail (n y m d : Int) (h1 : 1 ≤ m) (h2 : m ≤ 12) : (dtext n y m d).drop 17 = dig2 (n % 86400 / 3600).toNat ++ ([58] ++ (dig2 (n % 3600 / 60).toNat ++ ([58] ++ (dig2 (n % 60).toNat ++ [32, 71, 77, 84])))) := by
  have h := week_len (n / 86400 % 7).toNat (by omega)
  have h' := month_len (m - 1).toNat (by omega)
  unfold dtext
  rw [List.append_assoc, List.append_assoc, List.append_assoc, List.append_assoc, List.append_assoc]
  refine drop_app _ _ 17 ?_
  simp only [List.length_append, h, h', dig2_len, dig4_len, List.length_cons, List.length_nil]

theorem week_tail (n y m d : Int) (z k c : Int) (h1 : 1 ≤ m) (h2 : m ≤ 12) (h3 : 1 ≤ k) (h4 : k ≤ 12) : (dtext n y m d).drop 17 = (dtext (n + 604800) z k c).drop 17 := by
  rw [dtext_tail _ _ _ _ h1 h2, dtext_tail _ _ _ _ h3 h4]
  rw [show (n + 604800) % 86400 = n % 86400 by omega, show (n + 604800) % 3600 = n % 3600 by omega, show (n + 604800) % 60 = n % 60 by omega]

set_option maxHeartbeats 2000000 in
set_option maxRecDepth 100000 in
theorem walkDateWeek (a0 : Int) (w : World) (z0 : (Lit.int .i64 a0).wf = true) (ht : DTabs w) :
    Calls Tryd.prog 3 #[.int .i64 a0] w fun e w' => e = .returned (.bool true) ∧ Below w.heap.size w w' := by
  have HT : Hid (DTabs w) := ht
  have Z : Hid ((Lit.int .i64 a0).wf = true) := z0
  clear ht z0
  go_enter Tryd.func3, Tryd.ntmps3
  go_wp2_with fail
  refine (rest_any _ _ (by decide) (by decide) Z.out _).mono ?_
  rintro e w ⟨n, hn0, hn1, rfl, rfl⟩
  go_wp2_with fail
  refine (dprint_yes _ _ hn0 (by omega) HT.out).mono ?_
  rintro e w1 ⟨y, m, d, rfl, hv, hn, hb1⟩
  obtain ⟨_, _, c1, c2, _⟩ := vld_iff.1 hv
  have HT1 : Hid (DTabs w1) := HT.out.below hb1
  obtain ⟨a, ha⟩ : ∃ a : ByteArray, a = ⟨(dtext n y m d).toArray⟩ := ⟨_, rfl⟩
  rw [← ha]
  have HA : Hid (a = ⟨(dtext n y m d).toArray⟩) := ha
  clear hv hn ha
  go_wp2_with fail
  refine (dprint_yes _ _ (by omega) (by omega) HT1.out).mono ?_
  rintro e w2 ⟨z, k, c, rfl, hv, hn, hb2⟩
  obtain ⟨_, _, c3, c4, _⟩ := vld_iff.1 hv
  obtain ⟨b, hb⟩ : ∃ b : ByteArray, b = ⟨(dtext (n + 604800) z k c).toArray⟩ := ⟨_, rfl⟩
  rw [← hb]
  have hsa : a.size = 29 := by rw [HA.out, size_mk, dtext_len _ _ _ _ c1 c2]
  have hsb : b.size = 29 := by rw [hb, size_mk, dtext_len _ _ _ _ c3 c4]
  have he1 : a.extract 0 3 = b.extract 0 3 := by rw [HA.out, hb, extract_mk, extract_mk]; exact congrArg (fun l : List UInt8 => (⟨l.toArray⟩ : ByteArray)) (week_head n y m d z k c)
  have he2 : a.extract 17 29 = b.extract 17 29 := by rw [HA.out, hb, extract_mk, extract_mk, week_tail n y m d z k c c1 c2 c3 c4]
  have HB : Hid (Below w.heap.size w w2) := hb1.trans (hb2.mono hb1.size)
  clear hb1 hb2 hv hn hb HA
  go_wp2_with fail
  go_quiet (fail)
  go_wp2_with fail
  go_ret
  exact ⟨ret_bool (by simp), HB.out.trans (drewN_belowD _ _ _)⟩
end Go.Proofs.YthbbfkbcanjfaabDoor
