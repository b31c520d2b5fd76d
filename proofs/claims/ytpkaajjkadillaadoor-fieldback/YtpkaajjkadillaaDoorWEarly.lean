/-
  What strings.Cut computes at 13, 10, where the first 13 of the text has a 10 behind it: of texts of whatever size that Go allows; the package variable that the library reads holds some number.
-/
import Derived.Test.YtpkaajjkadillaaDoorWCutT
namespace Go.Proofs.YtpkaajjkadillaaDoor
open Go.RowKit

theorem indexByte_at (c : UInt8) (l t : List UInt8) (h : ∀ b ∈ l, b ≠ c) : Lib.indexByte (l ++ c :: t) c = (l.length : Int) := by
  rw [← Lib.index_one]; exact index_byte_at c l t h
/-- The text from its second byte on, up to its last one: where the first 13 lies. -/
theorem early_byte (s : ByteArray) (c0 : UInt8) (l r : List UInt8) (h : s.data.toList = c0 :: (l ++ 13 :: 10 :: r)) (hl : ∀ b ∈ l, b ≠ 13) :
    Lib.indexByte (s.extract 1 (s.size - 1)).data.toList 13 = (l.length : Int) := by
  have hz := size_list s
  rw [h] at hz
  simp at hz
  rw [Lib.extract_data, h, List.drop_succ_cons, List.drop_zero]
  have e : (l ++ 13 :: 10 :: r).take (s.size - 1 - 1) = l ++ 13 :: (10 :: r).take (s.size - 1 - 1 - l.length - 1) := by
    rw [List.take_append, List.take_of_length_le (by omega)]
    congr 1
    obtain ⟨q, hq⟩ : ∃ q, s.size - 1 - 1 - l.length = q + 1 := ⟨s.size - 1 - 1 - l.length - 1, by omega⟩
    rw [hq, List.take_succ_cons]; rfl
  rw [e]
  exact indexByte_at 13 l _ hl
theorem early_pair (s : ByteArray) (l r : List UInt8) (k : Nat) (h : s.data.toList = l ++ 13 :: 10 :: r) (hk : l.length = k) : s.extract k (k + 2) = ⟨#[13, 10]⟩ := by
  apply ByteArray.ext; apply Array.ext'
  rw [Lib.extract_data, h, ← hk, List.drop_left' rfl, Nat.add_sub_cancel_left]; rfl
theorem early_second (s : ByteArray) (l r : List UInt8) (k : Nat) (h : s.data.toList = l ++ 13 :: 10 :: r) (hk : l.length = k) (hlt : k + 1 < s.size) : s[k + 1] = 10 := by
  have e : s.data.toList[k + 1]? = some 10 := by
    rw [h, List.getElem?_append_right (by omega), hk, Nat.add_sub_cancel_left]; rfl
  have h' : k + 1 < s.data.toList.length := by rw [size_list]; exact hlt
  rw [List.getElem?_eq_getElem h', Option.some.injEq] at e
  exact e
theorem early_first (s : ByteArray) (c0 : UInt8) (l : List UInt8) (h : s.data.toList = c0 :: l) (hlt : 0 < s.size) : s[0] = c0 := by
  have e : s.data.toList[0]? = some c0 := by rw [h]; rfl
  have h' : 0 < s.data.toList.length := by rw [size_list]; exact hlt
  rw [List.getElem?_eq_getElem h', Option.some.injEq] at e
  exact e

theorem ib_at (s : ByteArray) (k : Nat) (h : Lib.indexByte (s.extract 1 (s.size - 2 + 1)).data.toList 13 = (k : Int)) (w : World) :
    Calls Tryd.prog 37 #[.string (s.extract 1 (s.size - 2 + 1)), .int .u8 ((⟨#[13, 10]⟩ : ByteArray)[0].toNat : Int)] w fun e w' => e = .returned (.int .i64 (k : Int)) ∧ w' = w := by
  refine (Tryd.stringslite_IndexByte _ _ _).mono ?_
  rintro e w' ⟨rfl, rfl⟩
  refine ⟨?_, rfl⟩
  rw [← h]
  rfl

set_option maxHeartbeats 4000000 in
set_option maxRecDepth 100000 in
theorem index_core (s : ByteArray) (k : Nat) (hk : k + 1 + 1 < s.size) (hfst : (s[0].toNat : Int) ≠ 13) (hI : Lib.indexByte (s.extract 1 (s.size - 1)).data.toList 13 = (k : Int)) (hP : s.extract (k + 1) (k + 1 + 2) = ⟨#[13, 10]⟩) (hsec : s[k + 1 + 1] = 10) (m : Int) (w : World) (hm : w.cell? ⟨0, 0, none⟩ = some (.int .i64 m)) (hlo : 64 < s.size) (hs : s.size ≤ 281474976710656) :
    Calls Tryd.prog 26 #[.string s, .string ⟨#[13, 10]⟩] w fun e w' => e = .returned (.int .i64 ((k : Int) + 1)) ∧ w' = w := by
  have HI : Hid (Lib.indexByte (s.extract 1 (s.size - 2 + 1)).data.toList 13 = (k : Int)) := by
    rw [show s.size - 2 + 1 = s.size - 1 by omega]; exact hI
  have hpp : ((s.extract (k + 1) (k + 1 + 2)).toList == [13, 10]) = true := by rw [hP, ByteArray.toList_eq]; rfl
  have h10 : (10 : Int) = ((⟨#[13, 10]⟩ : ByteArray)[1].toNat : Int) := rfl
  have hne' : (([13, 10] : List UInt8) == s.toList) = false := by
    rw [ByteArray.toList_eq, beq_eq_false_iff_ne]
    intro e; have := congrArg List.length e; rw [size_list s] at this; simp at this; omega
  have hlo' : ¬ (s.size : Int) ≤ 64 := by omega
  have hf : ((s[0].toNat : Int) != ((⟨#[13, 10]⟩ : ByteArray)[0].toNat : Int)) = true := by
    rw [bne_iff_ne]; exact hfst
  have b0 : (0 : Int) < (s.size : Int) - 2 + 1 := by omega
  have b1 : (1 : Int) ≤ (s.size : Int) - 2 + 1 := by omega
  have b2 : (s.size : Int) - 2 + 1 ≤ (s.size : Int) := by omega
  clear hI hP
  by_cases hmm : 2 ≤ m
  all_goals
    go_enter Tryd.func26, Tryd.ntmps26
    go_wp2_with fail
    go_loop [8, 10] (fun i f => i = .int .i64 0 ∧ f = .int .i64 0) (fun _ _ => 0)
    case atStart => exact ⟨rfl, rfl⟩
    case round =>
      obtain ⟨rfl, rfl⟩ := hrel
      go_wp2_with fail
      refine (ib_at s k HI.out _).mono ?_
      rintro e w' ⟨rfl, rfl⟩
      go_wp2_with fail
      go_ret
      exact ⟨rfl, rfl⟩

theorem index_early (s : ByteArray) (c0 : UInt8) (l r : List UInt8) (h : s.data.toList = c0 :: (l ++ 13 :: 10 :: r)) (hc0 : c0 ≠ 13) (hl : ∀ b ∈ l, b ≠ 13) (m : Int) (w : World) (hm : w.cell? ⟨0, 0, none⟩ = some (.int .i64 m)) (hlo : 64 < s.size) (hs : s.size ≤ 281474976710656) :
    Calls Tryd.prog 26 #[.string s, .string ⟨#[13, 10]⟩] w fun e w' => e = .returned (.int .i64 ((l.length : Int) + 1)) ∧ w' = w := by
  have hz := size_list s
  rw [h] at hz
  simp at hz
  have h' : s.data.toList = (c0 :: l) ++ 13 :: 10 :: r := h
  refine index_core s l.length (by omega) ?_ (early_byte s c0 l r h hl) (early_pair s (c0 :: l) r _ h' rfl) (early_second s (c0 :: l) r (l.length + 1) h' rfl (by omega)) m w hm hlo hs
  rw [early_first s c0 _ h (by omega)]
  intro e
  exact hc0 (UInt8.toNat_inj.1 (by show c0.toNat = 13; omega))

set_option maxHeartbeats 4000000 in
set_option maxRecDepth 100000 in
/-- The same, where 13, 10 stand first. -/
theorem index_first0 (s : ByteArray) (hlo : 64 < s.size) (h0 : s[0] = 13) (h1 : s[1] = 10) (hP : s.extract 0 2 = ⟨#[13, 10]⟩) (m : Int) (w : World) (hm : w.cell? ⟨0, 0, none⟩ = some (.int .i64 m)) (hs : s.size ≤ 281474976710656) :
    Calls Tryd.prog 26 #[.string s, .string ⟨#[13, 10]⟩] w fun e w' => e = .returned (.int .i64 0) ∧ w' = w := by
  have hpp : ((s.extract 0 2).toList == [13, 10]) = true := by rw [hP, ByteArray.toList_eq]; rfl
  have h10 : (10 : Int) = ((⟨#[13, 10]⟩ : ByteArray)[1].toNat : Int) := rfl
  have h13 : (13 : Int) = ((⟨#[13, 10]⟩ : ByteArray)[0].toNat : Int) := rfl
  have hne' : (([13, 10] : List UInt8) == s.toList) = false := by
    rw [ByteArray.toList_eq, beq_eq_false_iff_ne]
    intro e; have := congrArg List.length e; rw [size_list s] at this; simp at this; omega
  have hlo' : ¬ (s.size : Int) ≤ 64 := by omega
  have hf : (((s[0]).toNat : Int) != ((⟨#[13, 10]⟩ : ByteArray)[0].toNat : Int)) = false := by rw [h0]; rfl
  have b0 : (0 : Int) < (s.size : Int) - 2 + 1 := by omega
  clear hP
  by_cases hmm : 2 ≤ m
  all_goals
    go_enter Tryd.func26, Tryd.ntmps26
    go_wp2_with fail
    go_loop [8, 10] (fun i f => i = .int .i64 0 ∧ f = .int .i64 0) (fun _ _ => 0)
    case atStart => exact ⟨rfl, rfl⟩
    case round =>
      obtain ⟨rfl, rfl⟩ := hrel
      go_wp2_with fail
      go_ret
      exact ⟨rfl, rfl⟩

theorem ret_ssb {a b c d : ByteArray} {v : Value} (h : a = b) (h' : c = d) : Ending.returned (.tuple #[.string a, .string c, v]) = .returned (.tuple #[.string b, .string d, v]) := by rw [h, h']

set_option maxHeartbeats 1000000 in
set_option maxRecDepth 100000 in
theorem slcut_early (s a b : ByteArray) (h : s.data.toList = a.data.toList ++ 13 :: 10 :: b.data.toList) (w : World) (hs : s.size ≤ 281474976710656)
    (hI : ∀ W : World, W = w → Calls Tryd.prog 26 #[.string s, .string ⟨#[13, 10]⟩] W fun e w' => e = .returned (.int .i64 (a.size : Int)) ∧ w' = W) :
    Calls Tryd.prog 34 #[.string s, .string ⟨#[13, 10]⟩] w fun e w' => e = .returned (.tuple #[.string a, .string b, .bool true]) ∧ ∃ n, w' = w.drewN n := by
  have hz := size_list s
  have hza := size_list a
  rw [h] at hz
  simp only [List.length_append, List.length_cons, size_list] at hz
  have HA : Hid (s.extract 0 a.size = a) := by
    show _ = _
    apply ByteArray.ext; apply Array.ext'
    rw [Lib.extract_data, h, List.drop_zero, Nat.sub_zero, List.take_left' hza]
  have HB : Hid (s.extract (a.size + 2) s.size = b) := by
    show _ = _
    apply ByteArray.ext; apply Array.ext'
    rw [Lib.extract_data, h, ← hza, ← List.drop_drop, List.drop_left' rfl]
    simp only [List.drop_succ_cons, List.drop_zero]
    rw [List.take_of_length_le]; rw [size_list]; omega
  have h2 : (a.size : Int) ≤ (s.size : Int) := by omega
  have h3 : (a.size : Int) + 2 ≤ (s.size : Int) := by omega
  have h4 : (0 : Int) ≤ (a.size : Int) + 2 := by omega
  have hwr : IntKind.i64.wrap ((a.size : Int) + 2) = (a.size : Int) + 2 := by rw [IntKind.wrap_i64]; omega
  have hjn : ((a.size : Int) + 2).toNat = a.size + 2 := by omega
  have h1 : (0 : Int) ≤ (a.size : Int) := by omega
  clear h hz hza
  go_enter Tryd.func34, Tryd.ntmps34
  go_wp2_with fail
  refine (hI _ rfl).mono ?_
  rintro e w' ⟨rfl, rfl⟩
  have mixed : Tryd.prog.follows Departure.mixedOrders = true := by kernel_rfl
  go_wp2_with fail
  go_region_o
  go_wp2
  go_ret3
  refine ⟨ret_ssb ?_ ?_, 1, rfl⟩
  · exact HA.out
  · exact HB.out

set_option maxHeartbeats 1000000 in
set_option maxRecDepth 100000 in
/-- strings.Cut at 13, 10, where the first 13 has a 10 behind it. -/
theorem scut_early (s a b : ByteArray) (h : s.data.toList = a.data.toList ++ 13 :: 10 :: b.data.toList) (hn : ∀ c ∈ a.data.toList, c ≠ 13) (m : Int) (w : World) (hm : w.cell? ⟨0, 0, none⟩ = some (.int .i64 m)) (hs : s.size ≤ 281474976710656) :
    Calls Tryd.prog 23 #[.string s, .string ⟨#[13, 10]⟩] w fun e w' => e = .returned (.tuple #[.string a, .string b, .bool true]) ∧ ∃ n, w' = w.drewN n := by
  have hz := size_list s
  have hza := size_list a
  rw [h] at hz
  simp only [List.length_append, List.length_cons, size_list] at hz
  by_cases hlt : s.size < 4294967281
  · refine scut_at s _ a b true ?_ m w hm hlt
    have hi := index_at_crlf a.data.toList b.data.toList hn
    rw [h]
    refine (cut_yes _ _ _ hi).trans ?_
    rw [List.take_left' rfl, List.drop_append]
    simp
  · have hI : ∀ W : World, W = w → Calls Tryd.prog 26 #[.string s, .string ⟨#[13, 10]⟩] W fun e w' => e = .returned (.int .i64 (a.size : Int)) ∧ w' = W := by
      rintro W rfl
      cases hl : a.data.toList with
      | nil =>
        rw [hl] at h hza
        have e : (a.size : Int) = 0 := by rw [← hza]; rfl
        rw [e]
        exact index_first0 s (by omega) (early_first s 13 _ h (by omega)) (early_second s [] b.data.toList 0 h rfl (by omega)) (early_pair s [] b.data.toList 0 h rfl) m W hm hs
      | cons c0 l =>
        rw [hl] at h hn hza
        have e : (a.size : Int) = (l.length : Int) + 1 := by rw [← hza]; simp
        rw [e]
        exact index_early s c0 l b.data.toList h (hn c0 (List.mem_cons_self ..)) (fun x hx => hn x (List.mem_cons_of_mem _ hx)) m W hm (by omega) hs
    have hC := slcut_early s a b h w hs hI
    clear h hn hm hz hza hlt hI
    go_enter Tryd.func23, Tryd.ntmps23
    go_wp2_with fail
    refine hC.mono ?_
    rintro e w' ⟨rfl, n, rfl⟩
    go_wp2_with fail
    go_ret3
    exact ⟨rfl, n, rfl⟩
end Go.Proofs.YtpkaajjkadillaaDoor
