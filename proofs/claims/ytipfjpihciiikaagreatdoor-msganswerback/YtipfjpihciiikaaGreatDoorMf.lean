/-
  Numbers of at most four digits without noughts ahead: as they are counted sign by sign, and as they are read and told anew, they are the same; no program is named here.
-/
import Derived.Test.YtipfjpihciiikaaGreatDoorMe
import Derived.Test.YtipfjpihciiikaaGreatDoorShelf
import Derived.Test.YtipfjpihciiikaaGreatDoorRows
import Derived.Deep.QuietTactic
namespace Go.Proofs.YtipfjpihciiikaaGreatDoor
open Go.RowKit

theorem dd_dig (u : Nat) (h : u < 10) : isDig (UInt8.ofNat (48 + u)) = true ∧ (UInt8.ofNat (48 + u)).toNat = 48 + u := by
  have e : (UInt8.ofNat (48 + u)).toNat = 48 + u := by
    rw [UInt8.toNat_ofNat']; omega
  exact ⟨by rw [dig_iff, e]; omega, e⟩
theorem dec_step (u : Nat) (h : ¬ u < 10) : Lib.decDigits u = Lib.decDigits (u / 10) ++ [UInt8.ofNat (48 + u % 10)] := by rw [Lib.decDigits, dif_neg h]
theorem dec_ne (u : Nat) : Lib.decDigits u ≠ [] := by
  rw [Lib.decDigits]; split <;> simp
theorem dec_all (u : Nat) : (Lib.decDigits u).all isDig = true := by
  induction u using Nat.strongRecOn with
  | ind u ih =>
    by_cases h : u < 10
    · rw [Lib.decDigits_one h, List.all_cons, (dd_dig u h).1]; rfl
    · rw [dec_step u h, List.all_append, ih (u / 10) (by omega), List.all_cons, (dd_dig (u % 10) (by omega)).1]; rfl
theorem numb_dec (u : Nat) : numb (Lib.decDigits u) = u := by
  induction u using Nat.strongRecOn with
  | ind u ih =>
    by_cases h : u < 10
    · rw [Lib.decDigits_one h]
      show 0 * 10 + ((UInt8.ofNat (48 + u)).toNat : Int) - 48 = u
      rw [(dd_dig u h).2]; omega
    · rw [dec_step u h, numb_snoc, ih (u / 10) (by omega), (dd_dig (u % 10) (by omega)).2]; omega
theorem dec_head (u : Nat) (h1 : 1 ≤ u) : (Lib.decDigits u).head? ≠ some 48 := by
  induction u using Nat.strongRecOn with
  | ind u ih =>
    by_cases h : u < 10
    · rw [Lib.decDigits_one h]
      intro e
      have e1 : UInt8.ofNat (48 + u) = 48 := by simpa using e
      have := (dd_dig u h).2
      rw [e1] at this
      have h48 : (48 : UInt8).toNat = 48 := rfl
      omega
    · rw [dec_step u h, List.head?_append]
      have := ih (u / 10) (by omega) (by omega)
      cases hc : Lib.decDigits (u / 10) with
      | nil => exact absurd hc (dec_ne _)
      | cons a b => rw [hc] at this; simpa using this
theorem cnt_dec (u : Nat) (h : u ≤ 9999) : cnt (Lib.decDigits u) 9999 = u := by
  have hl : (Lib.decDigits u).length ≤ 4 := by
    rw [Lib.decDigits_length]
    rw [Lib.nDigits]; split
    · omega
    · rw [Lib.nDigits]; split
      · omega
      · rw [Lib.nDigits]; split
        · omega
        · rw [Lib.nDigits]; split <;> omega
  unfold cnt
  rw [if_neg, if_neg (by rw [numb_dec]; omega), numb_dec]
  rintro (h1 | h1 | ⟨h1, h2⟩ | h1)
  · exact dec_ne u (List.eq_nil_of_length_eq_zero h1)
  · omega
  · by_cases h0 : 1 ≤ u
    · exact dec_head u h0 h2
    · obtain rfl : u = 0 := by omega
      rw [Lib.decDigits_one (by omega)] at h1; simp at h1
  · rw [dec_all] at h1; cases h1
theorem canon (p : List UInt8) : ∀ (_ : p ≠ []) (_ : p.all isDig = true) (_ : ¬ (1 < p.length ∧ p.head? = some 48)), p = Lib.decDigits (numb p).toNat ∧ 0 ≤ numb p := by
  induction hn : p.length using Nat.strongRecOn generalizing p with
  | ind n ih =>
    intro hne hall hh
    rcases List.eq_nil_or_concat p with h | ⟨q, c, h⟩
    · exact absurd h hne
    · rw [List.concat_eq_append] at h
      subst h
      rw [List.all_append] at hall
      simp only [Bool.and_eq_true, List.all_cons, List.all_nil, Bool.and_true] at hall
      obtain ⟨hq, hc⟩ := hall
      have hcb := (dig_iff c).1 hc
      have hcc : ∀ d : Nat, d = c.toNat - 48 → UInt8.ofNat (48 + d) = c := by
        intro d hd
        apply UInt8.toNat_inj.1
        rw [UInt8.toNat_ofNat', hd]
        have : c.toNat < 256 := c.toNat_lt
        omega
      by_cases hqe : q = []
      · subst hqe
        have e : numb ([] ++ [c]) = (c.toNat : Int) - 48 := by unfold numb; simp
        rw [e]
        refine ⟨?_, by omega⟩
        rw [Lib.decDigits_one (by omega), List.nil_append, hcc _ (by omega)]
      · have hl : 0 < q.length := List.length_pos_iff.2 hqe
        have hqh : q.head? ≠ some 48 := by
          intro e
          apply hh
          refine ⟨by rw [← hn, List.length_append, List.length_singleton]; omega, ?_⟩
          rw [List.head?_append, e]; rfl
        obtain ⟨h1, h2⟩ := ih q.length (by rw [← hn]; simp) q rfl hqe hq (fun h => hqh h.2)
        have h3 : 1 ≤ (numb q).toNat := by
          rcases Nat.lt_or_ge (numb q).toNat 1 with h | h
          · exfalso
            have h0 : (numb q).toNat = 0 := by omega
            rw [h0, Lib.decDigits_one (by omega)] at h1
            exact hqh (by rw [h1]; rfl)
          · exact h
        rw [numb_snoc]
        refine ⟨?_, by omega⟩
        have e1 : (numb q * 10 + (c.toNat : Int) - 48).toNat = (numb q).toNat * 10 + (c.toNat - 48) := by omega
        rw [e1, dec_step _ (by omega), show ((numb q).toNat * 10 + (c.toNat - 48)) / 10 = (numb q).toNat by omega, show ((numb q).toNat * 10 + (c.toNat - 48)) % 10 = c.toNat - 48 by omega, ← h1, hcc _ rfl]
theorem from_fold (p : List UInt8) : ∀ (_ : p.all isDig = true) (acc : Nat), ∃ m : Nat, Lib.decFrom acc p = some m ∧ (m : Int) = p.foldl (fun n c => n * 10 + (c.toNat : Int) - 48) (acc : Int) := by
  induction p with
  | nil => intro _ acc; exact ⟨acc, rfl, rfl⟩
  | cons c r ih =>
    intro h acc
    simp only [List.all_cons, Bool.and_eq_true] at h
    have hb := (dig_iff c).1 h.1
    obtain ⟨m, h1, h2⟩ := ih h.2 (acc * 10 + (c.toNat - 48))
    refine ⟨m, ?_, ?_⟩
    · rw [Lib.decFrom, show Lib.digitVal c = some (c.toNat - 48) from if_pos hb]; exact h1
    · rw [h2, List.foldl_cons]; congr 1; omega
theorem atoi_dig (p : List UInt8) (hne : p ≠ []) (h : p.all isDig = true) (hl : p.length ≤ 18) : Lib.atoiAll p = .ok (numb p) := by
  rw [Lib.atoiAll_short p hl]
  obtain ⟨m, h1, h2⟩ := from_fold p h 0
  have hd : Lib.decNat p = some m := by
    unfold Lib.decNat
    rw [if_neg (by simpa using hne)]; exact h1
  have e : Lib.atoi p = some (numb p) := by
    cases p with
    | nil => exact absurd rfl hne
    | cons c r =>
      have hb := (dig_iff c).1 (by simp only [List.all_cons, Bool.and_eq_true] at h; exact h.1)
      have n45 : (c == 45) = false := by
        rw [beq_eq_false_iff_ne]; intro e; subst e; have : (45 : UInt8).toNat = 45 := rfl; omega
      have n43 : (c == 43) = false := by
        rw [beq_eq_false_iff_ne]; intro e; subst e; have : (43 : UInt8).toNat = 43 := rfl; omega
      show (if (c == 45) = true then (Lib.decNat r).map fun (m : Nat) => -(m : Int) else if (c == 43) = true then (Lib.decNat r).map fun (m : Nat) => (m : Int) else (Lib.decNat (c :: r)).map fun (m : Nat) => (m : Int)) = _
      rw [n45, n43, hd]
      simp only [Bool.false_eq_true, if_false, Option.map_some, Option.some.injEq]
      unfold numb; exact h2
  rw [e]; rfl
theorem cnt_rd (p : List UInt8) : cnt p 9999 = if (rdLn p).2 = true then (rdLn p).1 else -1 := by
  cases hb : (rdLn p).2
  · simp only [Bool.false_eq_true, if_false]
    unfold cnt
    split
    · rfl
    · rename_i h
      split
      · rfl
      · rename_i h2
        exfalso
        simp only [not_or] at h
        obtain ⟨h3, h4, h5, h6⟩ := h
        have hne : p ≠ [] := fun e => h3 (by rw [e]; rfl)
        have hall : p.all isDig = true := by simpa using h6
        obtain ⟨h7, h8⟩ := canon p hne hall h5
        have hat := atoi_dig p hne hall (by omega)
        have hlen : p.length ≤ 4 := by
          rw [h7, Lib.decDigits_length]
          have hm : (numb p).toNat ≤ 9999 := by omega
          generalize (numb p).toNat = u at hm
          rw [Lib.nDigits]; split
          · omega
          · rw [Lib.nDigits]; split
            · omega
            · rw [Lib.nDigits]; split
              · omega
              · rw [Lib.nDigits]; split <;> omega
        unfold rdLn at hb
        rw [hat] at hb
        have e : Lib.itoa (numb p) = p := by
          unfold Lib.itoa; rw [if_neg (by omega)]; exact h7.symm
        simp only [decide_eq_true h8, decide_eq_true hlen, decide_eq_true e, Bool.and_self] at hb
        cases hb
  · simp only [if_true]
    obtain ⟨h1, h2, h3, h4⟩ := rdLn_bd p hb
    generalize hv : (rdLn p).1 = v at h1 h2 h3
    have e : p = Lib.decDigits v.toNat := by rw [← h3]; unfold Lib.itoa; rw [if_neg (by omega)]
    rw [e, cnt_dec _ (by omega)]; omega
end Go.Proofs.YtipfjpihciiikaaGreatDoor

/-
  What Lower of the document's answers computes: the letters A to Z as a to z; the string fits in the memory that Go's limits allow.
-/
namespace Go.Proofs.YtipfjpihciiikaaGreatDoor
open Go.RowKit

theorem idx_great (c : UInt8) : (if 65 ≤ c && c ≤ 90 then (c.toNat : Int) - 65 else -1) = Lib.indexByte [65, 66, 67, 68, 69, 70, 71, 72, 73, 74, 75, 76, 77, 78, 79, 80, 81, 82, 83, 84, 85, 86, 87, 88, 89, 90] c := by
  have := byAll (fun c => decide ((if 65 ≤ c && c ≤ 90 then (c.toNat : Int) - 65 else -1) = Lib.indexByte [65, 66, 67, 68, 69, 70, 71, 72, 73, 74, 75, 76, 77, 78, 79, 80, 81, 82, 83, 84, 85, 86, 87, 88, 89, 90] c)) (by decide +kernel) c
  exact of_decide_eq_true this
theorem idx_yes (c : UInt8) (h : 65 ≤ (c.toNat : Int)) (h' : (c.toNat : Int) ≤ 90) : Lib.indexByte [65, 66, 67, 68, 69, 70, 71, 72, 73, 74, 75, 76, 77, 78, 79, 80, 81, 82, 83, 84, 85, 86, 87, 88, 89, 90] c = ((c.toNat - 65 : Nat) : Int) := by
  rw [← idx_great, if_pos (by simp [UInt8.le_iff_toNat_le]; omega)]; omega
theorem idx_no (c : UInt8) (h : (c.toNat : Int) < 65 ∨ 90 < (c.toNat : Int)) : Lib.indexByte [65, 66, 67, 68, 69, 70, 71, 72, 73, 74, 75, 76, 77, 78, 79, 80, 81, 82, 83, 84, 85, 86, 87, 88, 89, 90] c = -1 := by
  rw [← idx_great, if_neg (by simp [UInt8.le_iff_toNat_le]; omega)]

theorem u8_back (c : UInt8) : ((c.toNat : Int)).toNat.toUInt8 = c := by simp

theorem great_yes (c : UInt8) (n : Nat) (hn : (c.toNat : Int) = n + 65) (hn' : n < 26) (w : World) :
    Calls Tryz.prog 113 #[.string ⟨#[65, 66, 67, 68, 69, 70, 71, 72, 73, 74, 75, 76, 77, 78, 79, 80, 81, 82, 83, 84, 85, 86, 87, 88, 89, 90]⟩, .int .u8 (c.toNat : Int)] w fun e w' => e = .returned (.int .i64 (n : Int)) ∧ w' = w := by
  refine (Tryz.strings_IndexByte _ _ _).mono ?_
  rintro e w' ⟨rfl, rfl⟩
  refine ⟨?_, rfl⟩
  rw [u8_back]
  have h := idx_yes c (by omega) (by omega)
  have e : c.toNat - 65 = n := by omega
  rw [e] at h
  exact congrArg (fun x => Ending.returned (.int .i64 x)) h

theorem great_no (c : UInt8) (h : (c.toNat : Int) < 65 ∨ 90 < (c.toNat : Int)) (w : World) :
    Calls Tryz.prog 113 #[.string ⟨#[65, 66, 67, 68, 69, 70, 71, 72, 73, 74, 75, 76, 77, 78, 79, 80, 81, 82, 83, 84, 85, 86, 87, 88, 89, 90]⟩, .int .u8 (c.toNat : Int)] w fun e w' => e = .returned (.int .i64 (-1)) ∧ w' = w := by
  refine (Tryz.strings_IndexByte _ _ _).mono ?_
  rintro e w' ⟨rfl, rfl⟩
  refine ⟨?_, rfl⟩
  rw [u8_back]
  exact congrArg (fun x => Ending.returned (.int .i64 x)) (idx_no c h)

theorem app_list1 (l : List UInt8) (c : UInt8) : (⟨l.toArray⟩ : ByteArray) ++ ⟨#[c]⟩ = ⟨(l ++ [c]).toArray⟩ := by
  rw [ByteArray.mk_append_mk]

theorem small_at (c : UInt8) (n : Nat) (hn : (c.toNat : Int) = n + 65) (hn' : n < 26) : (⟨#[97, 98, 99, 100, 101, 102, 103, 104, 105, 106, 107, 108, 109, 110, 111, 112, 113, 114, 115, 116, 117, 118, 119, 120, 121, 122]⟩ : ByteArray).extract n (n + 1) = ⟨#[low c]⟩ := by
  rw [extract_one _ n (by exact hn')]
  have h : ∀ m : Fin 26, (#[97, 98, 99, 100, 101, 102, 103, 104, 105, 106, 107, 108, 109, 110, 111, 112, 113, 114, 115, 116, 117, 118, 119, 120, 121, 122] : Array UInt8)[m.val]'(by exact m.isLt) = low (UInt8.ofNat (m.val + 65)) := by decide +kernel
  have e : UInt8.ofNat (n + 65) = c := by
    apply UInt8.toNat.inj
    rw [UInt8.toNat_ofNat']
    omega
  have h' := h ⟨n, hn'⟩
  simp only [e] at h'
  exact congrArg (fun x => (⟨#[x]⟩ : ByteArray)) h'

theorem lower_step (s : ByteArray) (k : Nat) (h : k < s.size) : (⟨(lower (s.data.toList.take k)).toArray⟩ : ByteArray) ++ ⟨#[low s[k]]⟩ = ⟨(lower (s.data.toList.take (k + 1))).toArray⟩ := by
  rw [app_list1, take_snoc s k h, lower_snoc]

theorem lower_len (s : ByteArray) (k : Nat) (h : k ≤ s.size) : (⟨(lower (s.data.toList.take k)).toArray⟩ : ByteArray).size = k := by
  rw [← size_list]; simp [lower]
  have := size_list s
  simp at this
  omega

set_option maxHeartbeats 1000000 in
set_option maxRecDepth 100000 in
theorem rlower_any (s : ByteArray) (w : World) (hs : s.size ≤ 140737488351232) :
    Calls Tryz.prog 80 #[.string s] w fun e w' => e = .returned (.string ⟨(lower s.data.toList).toArray⟩) ∧ w' = w := by
  go_enter Tryz.func80, Tryz.ntmps80
  go_wp2_with fail
  go_loop [3, 8] (fun o i => ∃ k : Nat, ∃ t : ByteArray, k ≤ s.size ∧ i = .int .i64 k ∧ o = .string t ∧ t = ⟨(lower (s.data.toList.take k)).toArray⟩) (fun _ i => s.size - (intOf i).toNat)
  case atStart => exact ⟨0, _, Nat.zero_le _, rfl, rfl, rfl⟩
  case round =>
    obtain ⟨k, t, hk, rfl, rfl, ht⟩ := hrel
    have htl : t.size = k := by rw [ht]; exact lower_len s k hk
    have HT : Hid (t = ⟨(lower (s.data.toList.take k)).toArray⟩) := ht
    have hts : t.size ≤ 140737488351232 := by omega
    clear ht htl
    by_cases hlt : k < s.size
    · rcases (show (s[k].toNat : Int) < 65 ∨ (65 ≤ (s[k].toNat : Int) ∧ (s[k].toNat : Int) ≤ 90) ∨ 91 ≤ (s[k].toNat : Int) from by omega) with h | ⟨h, h'⟩ | h
      · go_wp2_with fail
        refine (great_no _ (by omega) _).mono ?_
        rintro e w' ⟨rfl, rfl⟩
        go_wp2_with fail
        go_round
        case rel => exact ⟨k + 1, _, by omega, by go_num, rfl, by rw [HT.out, extract_one s k hlt, ← lower_step s k hlt, low_no s[k] (by omega)]⟩
        case measure => simp [intOf]; omega
      · obtain ⟨n, hn⟩ : ∃ n : Nat, (s[k].toNat : Int) = n + 65 := ⟨s[k].toNat - 65, by omega⟩
        have hn' : n < 26 := by omega
        have HN : Hid ((s[k].toNat : Int) = n + 65) := hn
        clear hn
        go_wp2_with fail
        refine (great_yes _ n HN.out hn' _).mono ?_
        rintro e w' ⟨rfl, rfl⟩
        go_wp2_with fail
        go_round
        case rel => exact ⟨k + 1, _, by omega, by go_num, rfl, by rw [HT.out, small_at s[k] n HN.out hn', ← lower_step s k hlt]⟩
        case measure => simp [intOf]; omega
      · go_wp2_with fail
        refine (great_no _ (by omega) _).mono ?_
        rintro e w' ⟨rfl, rfl⟩
        go_wp2_with fail
        go_round
        case rel => exact ⟨k + 1, _, by omega, by go_num, rfl, by rw [HT.out, extract_one s k hlt, ← lower_step s k hlt, low_no s[k] (by omega)]⟩
        case measure => simp [intOf]; omega
    · obtain rfl : k = s.size := by omega
      go_wp2_with fail
      go_ret
      exact ⟨ret_str (by rw [HT.out, take_all]), rfl⟩
end Go.Proofs.YtipfjpihciiikaaGreatDoor

/-
  What Get of the document's answers computes; lists and texts are no longer than Go allows, and the values, with what stands between them, fit in 2^47 bytes.
-/
namespace Go.Proofs.YtipfjpihciiikaaGreatDoor
open Go.RowKit

theorem rlower_at (s t : ByteArray) (h : t.data.toList = lower s.data.toList) (w : World) (hs : s.size ≤ 140737488351232) :
    Calls Tryz.prog 80 #[.string s] w fun e w' => e = .returned (.string t) ∧ w' = w := by
  refine (rlower_any s w hs).mono ?_
  rintro e w' ⟨rfl, hb⟩
  refine ⟨ret_str ?_, hb⟩
  apply ByteArray.ext; apply Array.ext'; exact h.symm
theorem nm_is (n s t1 t2 : ByteArray) (u : List UInt8) (h1 : t1.data.toList = lower n.data.toList) (h2 : t2.data.toList = lower s.data.toList) : nm s.data.toList (n.data.toList, u) = (t1.toList == t2.toList) := by
  rw [ByteArray.toList_eq, ByteArray.toList_eq, h1, h2]; rfl
theorem ret_sb' {a b : ByteArray} {c d : Bool} (h : a = b) (h' : c = d) : Ending.returned (.tuple #[.string a, .bool c]) = .returned (.tuple #[.string b, .bool d]) := by rw [h, h']
theorem ba_two (a b : ByteArray) (l : List UInt8) (h : a.data.toList ++ b.data.toList = l) : a ++ b = ⟨l.toArray⟩ := by
  apply ByteArray.ext; apply Array.ext'
  rw [ByteArray.data_append, Array.toList_append, h]

set_option maxHeartbeats 4000000 in
set_option maxRecDepth 100000 in
theorem rget_at (v : Value) (ls : List Fld) (s t : ByteArray) (b : Bool) (ht : t.data.toList = jn (vals ls s.data.toList)) (hb : b = !(vals ls s.data.toList).isEmpty) (w : World) (hf : Fl w v ls) (hbk : bulkF ls ≤ 1048576) (hs : s.size ≤ 140737488351232) :
    Calls Tryz.prog 79 #[v, .string s] w fun e w' => e = .returned (.tuple #[.string t, .bool b]) ∧ Below w.heap.size w w' := by
  obtain ⟨ad, cap, hv, hcap, hcm, hc⟩ := hf
  subst hv
  have HC : Hid (0 < ls.length → ∃ g off, ad = some ⟨g, off, none⟩ ∧ g < w.heap.size ∧
    ∀ (k : Nat) (h : k < ls.length), w.cell? ⟨g, off + k * 2, none⟩ = some (.string ⟨(ls[k]).1.toArray⟩) ∧ w.cell? ⟨g, off + k * 2 + 1, none⟩ = some (.string ⟨(ls[k]).2.toArray⟩)) := hc
  have HT : Hid (t.data.toList = jn (vals ls s.data.toList)) := ht
  have HB : Hid (b = !(vals ls s.data.toList).isEmpty) := hb
  have HBK : Hid (bulkF ls ≤ 1048576) := hbk
  have hbl := bulk_len ls
  obtain ⟨t2, ht2⟩ : ∃ t2 : ByteArray, t2.data.toList = lower s.data.toList := ⟨⟨(lower s.data.toList).toArray⟩, rfl⟩
  have HT2 : Hid (t2.data.toList = lower s.data.toList) := ht2
  clear hc ht hb hbk ht2
  unfold maxLen at hcm
  go_enter Tryz.func79, Tryz.ntmps79
  go_wp2_with fail
  go_loopw [6, 7, 12] (fun o q i wr => ∃ (k : Nat) (r : ByteArray) (c : Bool), k ≤ ls.length ∧ i = .int .i64 k ∧ o = .string r ∧ q = .bool c ∧ r.data.toList = jn (vals (ls.take k) s.data.toList) ∧ c = !(vals (ls.take k) s.data.toList).isEmpty ∧ Below w.heap.size w wr) (fun _ _ i _ => ls.length - (intOf i).toNat)
  case atStart => exact ⟨0, ⟨#[]⟩, false, Nat.zero_le _, rfl, rfl, rfl, rfl, rfl, Below.refl _ _⟩
  case round =>
    obtain ⟨k, r, c, hk, rfl, rfl, rfl, hr, hcc, hw⟩ := hrel
    have hsz := hw.size
    have hrs : r.size ≤ 1048576 := by
      rw [← size_list, hr]
      have h1 := jn_bulk (ls.take k) s.data.toList
      have h2 : bulkF (ls.take k) ≤ bulkF ls := by
        have : bulkF ls = bulkF (ls.take k ++ ls.drop k) := by rw [List.take_append_drop]
        rw [this, bulkF_app]; omega
      have := HBK.out
      omega
    have HR : Hid (r.data.toList = jn (vals (ls.take k) s.data.toList)) := hr
    have HCC : Hid (c = !(vals (ls.take k) s.data.toList).isEmpty) := hcc
    clear hr hcc
    by_cases hlt : k < ls.length
    · obtain ⟨g, off, rfl, hgs, hce⟩ := HC.out (by omega)
      obtain ⟨c1, c2⟩ := hce k hlt
      have hmo := bulk_most ls ls[k] (List.getElem_mem hlt)
      have hbk := HBK.out
      obtain ⟨n, hn⟩ : ∃ n : ByteArray, n = ⟨(ls[k]).1.toArray⟩ := ⟨_, rfl⟩
      obtain ⟨u, hu⟩ : ∃ u : ByteArray, u = ⟨(ls[k]).2.toArray⟩ := ⟨_, rfl⟩
      have hns : n.size ≤ 1048576 := by rw [← size_list, hn]; exact Nat.le_trans hmo.1 hbk
      have hus : u.size ≤ 1048576 := by rw [← size_list, hu]; exact Nat.le_trans hmo.2 hbk
      have HE : Hid ((n.data.toList, u.data.toList) = ls[k]) := by show _ = _; rw [hn, hu]
      have HV := vals_take ls s.data.toList k hlt
      rw [← HE.out] at HV
      obtain ⟨t1, ht1⟩ : ∃ t1 : ByteArray, t1.data.toList = lower n.data.toList := ⟨⟨(lower n.data.toList).toArray⟩, rfl⟩
      have HT1 : Hid (t1.data.toList = lower n.data.toList) := ht1
      have HNM := nm_is n s t1 t2 u.data.toList ht1 HT2.out
      have d1 : wr.cell? ⟨g, off + k * 2, none⟩ = some (.string n) := by rw [hw.cell (p := ⟨g, off + k * 2, none⟩) hgs, hn]; exact c1
      have d2 : wr.cell? ⟨g, off + k * 2 + 1, none⟩ = some (.string u) := by rw [hw.cell (p := ⟨g, off + k * 2 + 1, none⟩) hgs, hu]; exact c2
      have hgr : g < wr.heap.size := by omega
      clear hce c1 c2 hmo hn hu ht1 hbk
      have hki : (k : Int) < (ls.length : Int) := by omega
      have hk0 : (0 : Int) ≤ (k : Int) := by omega
      cases hq : (t1.toList == t2.toList)
      · rw [HNM, hq] at HV
        have HV2 : Hid (vals (ls.take (k + 1)) s.data.toList = vals (ls.take k) s.data.toList) := by show _ = _; rw [HV]; simp
        clear HV HNM
        go_wp2_with fail
        refine (rlower_at n t1 HT1.out _ (by omega)).mono ?_
        rintro e w1 ⟨rfl, rfl⟩
        go_wp2_with fail
        refine (rlower_at s t2 HT2.out _ hs).mono ?_
        rintro e w2 ⟨rfl, rfl⟩
        go_wp2_with fail
        go_roundw
        case rel => exact ⟨k + 1, r, c, by omega, by go_num, rfl, rfl, by rw [HV2.out]; exact HR.out, by rw [HV2.out]; exact HCC.out, hw.alloc hsz _⟩
        case measure => simp [intOf]; omega
      · rw [HNM, hq] at HV
        have HV2 : Hid (vals (ls.take (k + 1)) s.data.toList = vals (ls.take k) s.data.toList ++ [u.data.toList]) := by show _ = _; rw [HV]; simp
        clear HV HNM
        cases c
        · have HX : Hid (vals (ls.take k) s.data.toList = []) := by
            have := HCC.out
            show _ = _
            simpa using this
          have HRE : Hid (r = ⟨#[]⟩) := by
            show _ = _
            apply ByteArray.ext; apply Array.ext'
            rw [HR.out, HX.out]; rfl
          have HN : Hid ((r ++ u).data.toList = jn (vals (ls.take (k + 1)) s.data.toList)) := by
            show _ = _
            rw [HV2.out, jn_snoc, if_pos HX.out, HRE.out, ByteArray.data_append, Array.toList_append]; rfl
          have HN2 : Hid (true = !(vals (ls.take (k + 1)) s.data.toList).isEmpty) := by show _ = _; rw [HV2.out]; simp
          go_wp2_with fail
          refine (rlower_at n t1 HT1.out _ (by omega)).mono ?_
          rintro e w1 ⟨rfl, rfl⟩
          go_wp2_with fail
          refine (rlower_at s t2 HT2.out _ hs).mono ?_
          rintro e w2 ⟨rfl, rfl⟩
          go_wp2_with fail
          go_roundw
          case rel => exact ⟨k + 1, r ++ u, true, by omega, by go_num, rfl, rfl, HN.out, HN2.out, hw.alloc hsz _⟩
          case measure => simp [intOf]; omega
        · have HX : Hid (vals (ls.take k) s.data.toList ≠ []) := by
            have := HCC.out
            show _ ≠ _
            intro e
            rw [e] at this
            simp at this
          have HN : Hid ((r ++ ⟨#[44, 32]⟩ ++ u).data.toList = jn (vals (ls.take (k + 1)) s.data.toList)) := by
            show _ = _
            rw [HV2.out, jn_snoc, if_neg HX.out, ByteArray.data_append, Array.toList_append, ByteArray.data_append, Array.toList_append, HR.out]
          have HN2 : Hid (true = !(vals (ls.take (k + 1)) s.data.toList).isEmpty) := by show _ = _; rw [HV2.out]; simp
          go_wp2_with fail
          refine (rlower_at n t1 HT1.out _ (by omega)).mono ?_
          rintro e w1 ⟨rfl, rfl⟩
          go_wp2_with fail
          refine (rlower_at s t2 HT2.out _ hs).mono ?_
          rintro e w2 ⟨rfl, rfl⟩
          go_wp2_with fail
          go_roundw
          case rel => exact ⟨k + 1, r ++ ⟨#[44, 32]⟩ ++ u, true, by omega, by go_num, rfl, rfl, HN.out, HN2.out, hw.alloc hsz _⟩
          case measure => simp [intOf]; omega
    · have HEnd : Hid (ls.take k = ls) := List.take_of_length_le (by omega)
      go_wp2_with fail
      go_ret2
      refine ⟨ret_sb' ?_ (by rw [HB.out, HCC.out, HEnd.out]), hw⟩
      apply ByteArray.ext; apply Array.ext'
      rw [HT.out, HR.out, HEnd.out]
end Go.Proofs.YtipfjpihciiikaaGreatDoor

/-
  What parts of the document's answers computes: the pieces between the signs that are not within quotes, each without the blanks at its ends; the text has at most 1000 bytes.
-/
namespace Go.Proofs.YtipfjpihciiikaaGreatDoor
open Go.RowKit

theorem own_form {w : World} {B : Nat} {v : Value} {n : Nat} {xs : List Value} (h : w.ownsRow B 9 1 v n xs) (hn : 0 < n) : ∃ g cap, v = .slice (some ⟨g, 0, none⟩) n cap ∧ B ≤ g ∧ g < w.heap.size ∧ n ≤ cap ∧ cap ≤ maxLen := by
  rcases h.2 with ⟨_, h0⟩ | ⟨g, cap, cur, hv, hb, hg, hnc, hcm, _, _⟩
  · omega
  · refine ⟨g, cap, hv, hb, ?_, hnc, hcm⟩
    exact (Array.getElem?_eq_some_iff.1 hg).1

theorem set_last (ps : List (List UInt8)) (cur : List UInt8) (c : UInt8) : (strs (ps ++ [cur])).set ps.length (.string ⟨(cur ++ [c]).toArray⟩) = strs (ps ++ [cur ++ [c]]) := by
  rw [← strs_snoc, ← strs_snoc, List.set_append_right _ _ (by rw [strs_length]; exact Nat.le_refl _), strs_length, Nat.sub_self]; rfl
theorem get_last (ps : List (List UInt8)) (cur : List UInt8) : (strs (ps ++ [cur]))[ps.length]? = some (.string ⟨cur.toArray⟩) := by
  rw [← strs_snoc, List.getElem?_append_right (by rw [strs_length]; exact Nat.le_refl _), strs_length, Nat.sub_self]; rfl
theorem app_cur (cur : List UInt8) (c : UInt8) : (⟨cur.toArray⟩ : ByteArray) ++ ⟨#[c]⟩ = ⟨(cur ++ [c]).toArray⟩ := by
  rw [ByteArray.mk_append_mk]
theorem cur_len (sep : UInt8) (l : List UInt8) : (cutS sep l).cur.length ≤ l.length := by
  have gen : ∀ (l : List UInt8) (x : Cut), (l.foldl (cstep sep) x).cur.length ≤ x.cur.length + l.length := by
    intro l
    induction l with
    | nil => intro x; simp
    | cons c l ih =>
      intro x
      rw [List.foldl_cons]
      have h := ih (cstep sep x c)
      have h2 : (cstep sep x c).cur.length ≤ x.cur.length + 1 := by unfold cstep; split <;> simp
      rw [List.length_cons]
      omega
  have := gen l ⟨[], [], false, false⟩
  simpa [cutS] using this
theorem one_eq (s : ByteArray) (k : Nat) (h : k < s.size) (d : UInt8) (b : Bool) (hb : decide ((s[k].toNat : Int) = (d.toNat : Int)) = b) : ((s.extract k (k + 1)).toList == [d]) = b := by
  have e : (s.extract k (k + 1)).toList = [s[k]] := by rw [extract_one s k h, ByteArray.toList_eq]
  rw [e, ← hb, Bool.eq_iff_iff]
  simp
  constructor
  · intro e; rw [e]
  · intro e; exact eq_of_int _ d (by omega)
theorem one_eq2 (s : ByteArray) (k : Nat) (h : k < s.size) (d : UInt8) (b : Bool) (hb : decide ((s[k].toNat : Int) = (d.toNat : Int)) = b) : ((s.extract k (k + 1)).toList == (⟨#[d]⟩ : ByteArray).toList) = b := by
  rw [ByteArray.toList_eq ⟨#[d]⟩]; exact one_eq s k h d b hb
theorem cstep_else' (sep : UInt8) (ps : List (List UInt8)) (cur : List UInt8) (q cn : Bool) (c : UInt8) (h1 : ¬ (c = sep ∧ q = false)) :
    cstep sep ⟨ps, cur, q, cn⟩ c = ⟨ps, cur ++ [c], if cn = true then q else if c = 34 then !q else q, if cn = true then false else if c = 34 then false else if c = 92 then q else false⟩ := by
  unfold cstep; rw [if_neg h1]

theorem own_below {w w1 : World} {B : Nat} {e : TypeId} {v : Value} {n : Nat} {xs : List Value} (h : w.ownsRow B e 1 v n xs) (hb : Below w.heap.size w w1) : w1.ownsRow B e 1 v n xs := by
  refine ⟨h.1, ?_⟩
  rcases h.2 with h0 | ⟨g, cap, cur, hv, hB, hg, h3⟩
  · exact .inl h0
  · exact .inr ⟨g, cap, cur, hv, hB, (hb.block g (Array.getElem?_eq_some_iff.1 hg).1).trans hg, h3⟩
theorem cell_block' {w : World} {a : Addr} {v : Value} (h : w.cell? a = some v) : a.block < w.heap.size := by
  rcases Nat.lt_or_ge a.block w.heap.size with h1 | h1
  · exact h1
  · exfalso
    unfold World.cell? at h
    rw [Array.getElem?_eq_none h1] at h
    simp at h
theorem cstep_sep' (sep : UInt8) (ps : List (List UInt8)) (cur : List UInt8) (cn : Bool) (c : UInt8) (hc : c = sep) : cstep sep ⟨ps, cur, false, cn⟩ c = ⟨ps ++ [cur], [], false, cn⟩ := by
  simp [cstep, hc]

/-- What the second loop has done after k rounds. -/
def half (P : List (List UInt8)) (k : Nat) : List (List UInt8) := (P.take k).map trimL ++ P.drop k
theorem half_len (P : List (List UInt8)) (k : Nat) (h : k ≤ P.length) : (half P k).length = P.length := by
  simp [half]; omega
theorem half_get (P : List (List UInt8)) (k : Nat) (h : k < P.length) : (strs (half P k))[k]? = some (.string ⟨P[k].toArray⟩) := by
  have hl : (half P k)[k]? = some P[k] := by
    unfold half
    rw [List.getElem?_append_right (by simp; omega)]
    simp [List.length_take, Nat.min_eq_left (Nat.le_of_lt h), h]
  unfold strs
  rw [List.getElem?_map, hl]; rfl
theorem half_at (P : List (List UInt8)) (k : Nat) (h : k < P.length) : half P k = (P.take k).map trimL ++ P[k] :: P.drop (k + 1) ∧ half P (k + 1) = (P.take k).map trimL ++ trimL P[k] :: P.drop (k + 1) := by
  refine ⟨by unfold half; rw [List.drop_eq_getElem_cons h], ?_⟩
  unfold half
  rw [List.take_succ_eq_append_getElem h, List.map_append, List.append_assoc]; rfl
theorem half_set (P : List (List UInt8)) (k : Nat) (h : k < P.length) : (strs (half P k)).set k (.string ⟨(trimL P[k]).toArray⟩) = strs (half P (k + 1)) := by
  obtain ⟨e1, e2⟩ := half_at P k h
  have hl : (strs ((P.take k).map trimL)).length = k := by simp [strs]; omega
  have ea : strs (half P k) = strs ((P.take k).map trimL) ++ Value.string ⟨P[k].toArray⟩ :: strs (P.drop (k + 1)) := by rw [e1]; unfold strs; rw [List.map_append, List.map_cons]
  have eb : strs (half P (k + 1)) = strs ((P.take k).map trimL) ++ Value.string ⟨(trimL P[k]).toArray⟩ :: strs (P.drop (k + 1)) := by rw [e2]; unfold strs; rw [List.map_append, List.map_cons]
  rw [ea, eb, List.set_append_right _ _ (by omega), hl, Nat.sub_self, List.set_cons_zero]
theorem half_all (P : List (List UInt8)) : half P P.length = P.map trimL := by simp [half]

set_option maxHeartbeats 4000000 in
set_option maxRecDepth 100000 in
theorem rparts_any (s : ByteArray) (sep : UInt8) (w : World) (hs : s.size ≤ 1000) :
    Calls Tryz.prog 114 #[.string s, .string ⟨#[sep]⟩] w fun e w' => ∃ v, e = .returned (.tuple #[v, .bool (ends sep s.data.toList)]) ∧
      w'.ownsRow w.heap.size 9 1 v (pieces sep s.data.toList).length (strs ((pieces sep s.data.toList).map trimL)) ∧ Below w.heap.size w w' := by
  obtain ⟨i0, hi, hz0, hz1, hz2⟩ := info_parts info9
  have hst : (w.alloc (.cells #[.string ⟨#[]⟩] 9)).ownsRow w.heap.size 9 1 (.slice (some ⟨w.heap.size, 0, none⟩) 1 1) (0 + 1) (strs ([] ++ [([] : List UInt8)])) :=
    World.ownsRow_lit w #[.string ⟨#[]⟩] 1 (Nat.le_refl _) (by unfold maxLen; omega) rfl
  go_enter Tryz.func114, Tryz.ntmps114
  go_wp2_with fail
  go_loopw [6, 7, 8, 15] (fun v qv cv i wr => ∃ (k : Nat) (ps : List (List UInt8)) (cur : List UInt8) (q cn : Bool) , k ≤ s.size ∧ i = .int .i64 k ∧ qv = .bool q ∧ cv = .bool cn ∧
      cutS sep (s.data.toList.take k) = ⟨ps, cur, q, cn⟩ ∧ wr.ownsRow w.heap.size 9 1 v (ps.length + 1) (strs (ps ++ [cur])) ∧ Below w.heap.size w wr) (fun _ _ _ i _ => s.size - (intOf i).toNat)
  case atStart => exact ⟨0, [], [], false, false, by omega, rfl, rfl, rfl, rfl, hst, (Below.refl _ w).alloc (Nat.le_refl _) _⟩
  case round =>
    obtain ⟨k, ps, cur, q, cn, hk, rfl, rfl, rfl, hcut, hown, hw⟩ := hrel
    clear hst
    have hpl : ps.length ≤ 1000 ∧ cur.length ≤ 1000 := by
      have h1 := cutS_len sep (s.data.toList.take k)
      have h1' := cur_len sep (s.data.toList.take k)
      have h2 := List.length_take_le k s.data.toList
      rw [hcut] at h1 h1'
      simp only at h1 h1'
      omega
    obtain ⟨hpl, hcl⟩ := hpl
    have hsz := hw.size
    have HC : Hid (cutS sep (s.data.toList.take k) = ⟨ps, cur, q, cn⟩) := hcut
    clear hcut
    obtain ⟨g, cap, hv, hgB, hgs, hnc, hcm⟩ := own_form hown (by omega)
    have hcell : wr.cell? ⟨g, ps.length, none⟩ = some (.string ⟨cur.toArray⟩) := by
      rw [hv] at hown
      rw [hown.cellAt ps.length (by omega)]
      exact get_last ps cur
    have hfz : wr.frozen? ⟨g, ps.length, none⟩ = false := by
      rw [hv] at hown
      exact hown.frozenAt ps.length
    obtain ⟨t, ht⟩ : ∃ t : ByteArray, t = ⟨cur.toArray⟩ := ⟨_, rfl⟩
    have hts : t.size ≤ 1000 := by rw [ht, ← size_list]; exact hcl
    rw [← ht] at hcell
    have HT : Hid (t = ⟨cur.toArray⟩) := ht
    subst hv
    unfold maxLen at hcm
    clear ht
    by_cases hlt : k < s.size
    · have hc1 : (s[k].toNat : Int) < 256 := by have := s[k].toNat_lt; omega
      have HSN : Hid (∀ x, cstep sep ⟨ps, cur, q, cn⟩ s[k] = x → cutS sep (s.data.toList.take (k + 1)) = x) := by
        intro x hx
        rw [take_snoc s k hlt, cutS_snoc, HC.out, hx]
      have HST : Hid ((wr.setCell ⟨g, ps.length, none⟩ (.string (t ++ s.extract k (k + 1)))).ownsRow w.heap.size 9 1 (.slice (some ⟨g, 0, none⟩) (ps.length + 1) cap) (ps.length + 1) (strs (ps ++ [cur ++ [s[k]]])) ∧ Below w.heap.size w (wr.setCell ⟨g, ps.length, none⟩ (.string (t ++ s.extract k (k + 1))))) := by
        refine ⟨?_, hw.setCell (p := ⟨g, ps.length, none⟩) hgB _⟩
        have h := (hown.stored ps.length (.string (t ++ s.extract k (k + 1)))).1
        have e : t ++ s.extract k (k + 1) = ⟨(cur ++ [s[k]]).toArray⟩ := by rw [HT.out, extract_one s k hlt, app_cur]
        rw [e, set_last] at h
        rw [e]
        exact h
      by_cases hsep : (s[k].toNat : Int) = (sep.toNat : Int)
      · have hd1 := one_eq s k hlt sep true (decide_eq_true hsep)
        have hd1' := one_eq2 s k hlt sep true (decide_eq_true hsep)
        have HSP : Hid (s[k] = sep) := eq_of_int _ _ hsep
        cases q
        · clear hsep
          go_wp2_with (at_builtin; refine wpList_append_own _ rfl _ _ 78 rfl w.heap.size 9 i0 (.string ⟨#[]⟩) 1 16 Tryz.underlying78 hi hz0 hz1 hz2 rfl (by decide) _ _ _ rfl (hown.alloc _) ⟨wr.heap.size, 0, none⟩ 1 1 [.string ⟨#[]⟩] rfl rfl ?c1 ?c2 ?c3 ?c4 ?c5 ?_)
          case c1 => exact one_cell _ _ _
          case c2 => intro u hu; simp at hu; subst hu; rfl
          case c3 => unfold maxLen; omega
          case c4 => omega
          case c5 => simp; omega
          · intro v' w1 hown' hgrow _
            have hB : Below w.heap.size w w1 := (hw.alloc (by omega) _).grown hgrow (by simp; omega) (fun b hb => ((hown.alloc (.cells #[.string ⟨#[]⟩] 9)).lt b hb).1)
            have hown2 : w1.ownsRow w.heap.size 9 1 v' ((ps ++ [cur]).length + 1) (strs (ps ++ [cur] ++ [[]])) := by
              rw [← strs_snoc, List.length_append]; exact hown'
            clear hown' hgrow hown hw HST
            go_wp2_with fail
            go_roundw
            case rel => exact ⟨k + 1, ps ++ [cur], [], false, cn, by omega, by go_num, rfl, rfl, HSN.out _ (cstep_sep' sep _ _ _ _ HSP.out), hown2, hB⟩
            case measure => simp [intOf]; omega
        · have HE := HSN.out _ (cstep_else' sep ps cur true cn s[k] (fun h => by cases h.2))
          have HEE : Hid (cutS sep (s.data.toList.take (k + 1)) = _) := HE
          clear HE hsep HSN hown hw
          cases cn
          · by_cases h34 : (s[k].toNat : Int) = 34
            · have hd2 := one_eq s k hlt 34 true (decide_eq_true h34)
              have H34 : Hid (s[k] = 34) := eq_of_int _ 34 h34
              clear h34
              go_wp2_with fail
              go_roundw
              case rel => exact ⟨k + 1, ps, cur ++ [s[k]], false, false, by omega, by go_num, rfl, rfl, by rw [HEE.out, H34.out]; rfl, HST.out.1, HST.out.2⟩
              case measure => simp [intOf]; omega
            · have hd2 := one_eq s k hlt 34 false (decide_eq_false h34)
              have H34 : Hid (s[k] ≠ 34) := ne_of_int _ 34 h34
              clear h34
              by_cases h92 : (s[k].toNat : Int) = 92
              · have hd3 := one_eq s k hlt 92 true (decide_eq_true h92)
                have H92 : Hid (s[k] = 92) := eq_of_int _ 92 h92
                clear h92
                go_wp2_with fail
                go_roundw
                case rel => exact ⟨k + 1, ps, cur ++ [s[k]], true, true, by omega, by go_num, rfl, rfl, by rw [HEE.out, H92.out]; rfl, HST.out.1, HST.out.2⟩
                case measure => simp [intOf]; omega
              · have hd3 := one_eq s k hlt 92 false (decide_eq_false h92)
                have H92 : Hid (s[k] ≠ 92) := ne_of_int _ 92 h92
                clear h92
                go_wp2_with fail
                go_roundw
                case rel => exact ⟨k + 1, ps, cur ++ [s[k]], true, false, by omega, by go_num, rfl, rfl, by rw [HEE.out, if_neg H34.out, if_neg H34.out, if_neg H92.out]; rfl, HST.out.1, HST.out.2⟩
                case measure => simp [intOf]; omega
          · go_wp2_with fail
            go_roundw
            case rel => exact ⟨k + 1, ps, cur ++ [s[k]], true, false, by omega, by go_num, rfl, rfl, HEE.out, HST.out.1, HST.out.2⟩
            case measure => simp [intOf]; omega
      · have hd1 := one_eq s k hlt sep false (decide_eq_false hsep)
        have hd1' := one_eq2 s k hlt sep false (decide_eq_false hsep)
        have HE := HSN.out _ (cstep_else' sep ps cur q cn s[k] (fun h => ne_of_int _ _ hsep h.1))
        have HEE : Hid (cutS sep (s.data.toList.take (k + 1)) = _) := HE
        clear HE hsep HSN hown hw
        cases cn
        · by_cases h34 : (s[k].toNat : Int) = 34
          · have hd2 := one_eq s k hlt 34 true (decide_eq_true h34)
            have H34 : Hid (s[k] = 34) := eq_of_int _ 34 h34
            clear h34
            cases q
            all_goals
              go_wp2_with fail
              go_roundw
              case rel => exact ⟨k + 1, ps, cur ++ [s[k]], _, false, by omega, by go_num, rfl, rfl, by rw [HEE.out, H34.out]; rfl, HST.out.1, HST.out.2⟩
              case measure => simp [intOf]; omega
          · have hd2 := one_eq s k hlt 34 false (decide_eq_false h34)
            have H34 : Hid (s[k] ≠ 34) := ne_of_int _ 34 h34
            clear h34
            by_cases h92 : (s[k].toNat : Int) = 92
            · have hd3 := one_eq s k hlt 92 true (decide_eq_true h92)
              have H92 : Hid (s[k] = 92) := eq_of_int _ 92 h92
              clear h92
              cases q
              all_goals
                go_wp2_with fail
                go_roundw
                case rel => exact ⟨k + 1, ps, cur ++ [s[k]], _, _, by omega, by go_num, rfl, rfl, by rw [HEE.out, H92.out]; rfl, HST.out.1, HST.out.2⟩
                case measure => simp [intOf]; omega
            · have hd3 := one_eq s k hlt 92 false (decide_eq_false h92)
              have H92 : Hid (s[k] ≠ 92) := ne_of_int _ 92 h92
              clear h92
              cases q
              all_goals
                go_wp2_with fail
                go_roundw
                case rel => exact ⟨k + 1, ps, cur ++ [s[k]], _, false, by omega, by go_num, rfl, rfl, by rw [HEE.out, if_neg H34.out, if_neg H34.out, if_neg H92.out]; rfl, HST.out.1, HST.out.2⟩
                case measure => simp [intOf]; omega
        · cases q
          all_goals
            go_wp2_with fail
            go_roundw
            case rel => exact ⟨k + 1, ps, cur ++ [s[k]], _, false, by omega, by go_num, rfl, rfl, HEE.out, HST.out.1, HST.out.2⟩
            case measure => simp [intOf]; omega
    · have HE : Hid (cutS sep s.data.toList = ⟨ps, cur, q, cn⟩) := by
        show cutS sep s.data.toList = _
        have h := HC.out
        rw [List.take_of_length_le (by rw [size_list]; omega)] at h
        exact h
      have HEN : Hid (ends sep s.data.toList = !q) := by show _ = _; unfold ends; rw [HE.out]
      have HPI : Hid (pieces sep s.data.toList = ps ++ [cur]) := by show _ = _; unfold pieces; rw [HE.out]
      obtain ⟨wo, rfl⟩ : ∃ wo : World, wo = wr := ⟨_, rfl⟩
      clear hcell hfz HC hcl
      go_wp2_with fail
      go_loopw [56] (fun i wr => ∃ j : Nat, j ≤ ps.length + 1 ∧ i = .int .i64 j ∧ wr.ownsRow w.heap.size 9 1 (.slice (some ⟨g, 0, none⟩) (ps.length + 1) cap) (ps.length + 1) (strs (half (ps ++ [cur]) j)) ∧ Below w.heap.size w wr) (fun i _ => ps.length + 1 - (intOf i).toNat)
      case atStart => exact ⟨0, by omega, rfl, by simpa [half] using hown, hw⟩
      case round =>
        obtain ⟨j, hj, rfl, hown2, hw2⟩ := hrel
        clear hown hw
        have hsz2 := hw2.size
        by_cases hjt : j < ps.length + 1
        · have hjP : j < (ps ++ [cur]).length := by simp; omega
          have hcell : wr.cell? ⟨g, j, none⟩ = some (.string ⟨((ps ++ [cur])[j]).toArray⟩) := by
            rw [hown2.cellAt j (by omega)]
            exact half_get _ j hjP
          obtain ⟨u, hu⟩ : ∃ u : ByteArray, u = ⟨((ps ++ [cur])[j]).toArray⟩ := ⟨_, rfl⟩
          rw [← hu] at hcell
          obtain ⟨u', hu'⟩ : ∃ u' : ByteArray, u' = ⟨(trimL (ps ++ [cur])[j]).toArray⟩ := ⟨_, rfl⟩
          have hus : u.size ≤ 1000 := by
            rw [hu, ← size_list]
            have := pieces_len sep s.data.toList (ps ++ [cur])[j] (by rw [HPI.out]; exact List.getElem_mem hjP)
            rw [size_list] at this
            show ((ps ++ [cur])[j]).length ≤ 1000
            omega
          have HU : Hid (u'.data.toList = trimL u.data.toList) := by show _ = _; rw [hu, hu']
          have HU' : Hid (u' = ⟨(trimL (ps ++ [cur])[j]).toArray⟩) := hu'
          clear hu hu'
          go_wp2_with fail
          refine (rtrim_at 1000 _ u' _ hus (by omega) HU.out).mono ?_
          rintro e w1 ⟨rfl, hb⟩
          have hown3 := own_below hown2 hb
          have hcell3 : w1.cell? ⟨g, j, none⟩ = some (.string u) := (hb.cell (cell_block' hcell)).trans hcell
          have hfz3 := hown3.frozenAt j
          have hw3 := hw2.trans (hb.mono hw2.size)
          have HST : Hid ((w1.setCell ⟨g, j, none⟩ (.string u')).ownsRow w.heap.size 9 1 (.slice (some ⟨g, 0, none⟩) (ps.length + 1) cap) (ps.length + 1) (strs (half (ps ++ [cur]) (j + 1))) ∧ Below w.heap.size w (w1.setCell ⟨g, j, none⟩ (.string u'))) := by
            refine ⟨?_, hw3.setCell (p := ⟨g, j, none⟩) hgB _⟩
            have h := (hown3.stored j (.string u')).1
            rw [HU'.out, half_set _ j hjP] at h
            rw [HU'.out]
            exact h
          clear hown3 hown2 hw2 hw3 hb hcell
          go_wp2_with fail
          go_roundw
          case rel => exact ⟨j + 1, by omega, by go_num, HST.out.1, HST.out.2⟩
          case measure => simp [intOf]; omega
        · obtain rfl : j = ps.length + 1 := by omega
          go_wp2_with fail
          go_ret2
          refine ⟨.slice (some ⟨g, 0, none⟩) (ps.length + 1) cap, by rw [HEN.out]; rfl, ?_, hw2⟩
          rw [HPI.out, ← half_all]
          have e : (ps ++ [cur]).length = ps.length + 1 := by simp
          rw [e]
          exact hown2
end Go.Proofs.YtipfjpihciiikaaGreatDoor

/-
  What Split of the document's answers computes; the text is no longer than Go allows.
-/
namespace Go.Proofs.YtipfjpihciiikaaGreatDoor
open Go.RowKit

def full (P : List (List UInt8)) : List (List UInt8) := P.filter (fun p => !p.isEmpty)
theorem full_snoc (P : List (List UInt8)) (p : List UInt8) : full (P ++ [p]) = if p.isEmpty = true then full P else full P ++ [p] := by
  unfold full
  rw [List.filter_append]
  cases h : p.isEmpty <;> simp [h]
theorem full_len (P : List (List UInt8)) : (full P).length ≤ P.length := List.length_filter_le _ _
theorem full_kept (P : List (List UInt8)) : full (P.map trimL) = kept P := rfl

set_option maxHeartbeats 4000000 in
set_option maxRecDepth 100000 in
theorem rsplit_any (s : ByteArray) (w : World) :
    Calls Tryz.prog 81 #[.string s] w fun e w' => ∃ v, e = .returned (.tuple #[v, .int .i64 (splitS s.data.toList).2]) ∧
      w'.ownsRow w.heap.size 9 1 v (splitS s.data.toList).1.length (strs (splitS s.data.toList).1) ∧ Below w.heap.size w w' := by
  obtain ⟨i0, hi, hz0, hz1, hz2⟩ := info_parts info9
  by_cases h1 : 1000 < (s.size : Int)
  · have HL : Hid (splitS s.data.toList = ([], 2)) := by show _ = _; unfold splitS; rw [if_pos (by rw [size_list]; omega)]
    go_enter Tryz.func81, Tryz.ntmps81
    go_wp2_with fail
    go_ret2
    exact ⟨.slice none 0 0, by rw [HL.out]; rfl, by rw [HL.out]; exact World.ownsRow_nil _ _ _ _, Below.refl _ _⟩
  · have hs : s.size ≤ 1000 := by omega
    have HL : Hid (¬ 1000 < s.data.toList.length) := by show ¬ _; rw [size_list]; omega
    clear h1
    cases he : ends 44 s.data.toList
    · have HE : Hid (ends 44 s.data.toList = false) := he
      have HS : Hid (splitS s.data.toList = ([], 3)) := by show _ = _; unfold splitS; rw [if_neg HL.out, if_pos he]
      clear he
      go_enter Tryz.func81, Tryz.ntmps81
      go_wp2_with fail
      refine (rparts_any s 44 _ hs).mono ?_
      rintro e w1 ⟨v, rfl, hown, hb⟩
      rw [HE.out]
      go_wp2_with fail
      go_ret2
      exact ⟨.slice none 0 0, by rw [HS.out]; rfl, by rw [HS.out]; exact World.ownsRow_nil _ _ _ _, hb⟩
    · have HE : Hid (ends 44 s.data.toList = true) := he
      have HS : Hid (splitS s.data.toList = if 20 < (kept (pieces 44 s.data.toList)).length then ([], 2) else (kept (pieces 44 s.data.toList), 0)) := by
        show _ = _; unfold splitS; rw [if_neg HL.out, if_neg (by rw [he]; simp)]
      clear he
      obtain ⟨P, hP⟩ : ∃ P, P = (pieces 44 s.data.toList).map trimL := ⟨_, rfl⟩
      have HP : Hid (P = (pieces 44 s.data.toList).map trimL) := hP
      have HK : Hid (kept (pieces 44 s.data.toList) = full P) := by show _ = _; rw [hP, full_kept]
      have HPL : Hid ((pieces 44 s.data.toList).length = P.length) := by show _ = _; rw [hP]; simp
      have hPl : P.length ≤ 1001 := by
        rw [hP]; unfold pieces
        have := cutS_len 44 s.data.toList
        rw [size_list] at this
        simp; omega
      clear hP
      go_enter Tryz.func81, Tryz.ntmps81
      go_wp2_with fail
      refine (rparts_any s 44 _ hs).mono ?_
      rintro e w1 ⟨v, rfl, hown, hb⟩
      rw [HE.out]
      rw [← HP.out, HPL.out] at hown
      obtain ⟨ad, cap, hv, hcm, hnc, hcells⟩ := own_slice hown
      subst hv
      unfold maxLen at hcm
      have HCL : Hid (0 < P.length → ∃ g, ad = some ⟨g, 0, none⟩ ∧ w.heap.size ≤ g ∧ g < w1.heap.size ∧ ∀ j, j < P.length → w1.cell? ⟨g, j, none⟩ = (strs P)[j]?) := hcells
      have hbs := hb.size
      clear hcells hown
      go_wp2_with fail
      go_loopw [6, 21] (fun v i wr => ∃ k : Nat, k ≤ P.length ∧ i = .int .i64 k ∧ wr.ownsRow w1.heap.size 9 1 v (full (P.take k)).length (strs (full (P.take k))) ∧ Below w1.heap.size w1 wr) (fun _ i _ => P.length - (intOf i).toNat)
      case atStart => exact ⟨0, by omega, rfl, World.ownsRow_nil _ _ _ _, Below.refl _ _⟩
      case round =>
        obtain ⟨k, hk, rfl, hown, hw⟩ := hrel
        have hsz := hw.size
        have hkl : (full (P.take k)).length ≤ 1001 := by
          have h1 := full_len (P.take k)
          have h2 := List.length_take_le k P
          omega
        by_cases hlt : k < P.length
        · obtain ⟨g, rfl, hgB, hgs, hce⟩ := HCL.out (by omega)
          have hcell : wr.cell? ⟨g, k, none⟩ = some (.string ⟨(P[k]).toArray⟩) := by
            rw [hw.cell (p := ⟨g, k, none⟩) hgs, hce k hlt]
            exact strs_get P k hlt
          obtain ⟨u, hu⟩ : ∃ u : ByteArray, u = ⟨(P[k]).toArray⟩ := ⟨_, rfl⟩
          rw [← hu] at hcell
          have HU : Hid (u = ⟨(P[k]).toArray⟩) := hu
          have HKS : Hid (full (P.take (k + 1)) = if (P[k]).isEmpty = true then full (P.take k) else full (P.take k) ++ [P[k]]) := by
            show _ = _; rw [take_one P k hlt, full_snoc]
          clear hce hu
          cases hem : u.toList.isEmpty
          · have HEM : Hid ((P[k]).isEmpty = false) := by
              show _ = _
              rw [ByteArray.toList_eq, HU.out] at hem
              exact hem
            go_wp2_with (at_builtin; refine wpList_append_own _ rfl _ _ 78 rfl w1.heap.size 9 i0 (.string ⟨#[]⟩) 1 16 Tryz.underlying78 hi hz0 hz1 hz2 rfl (by decide) _ _ _ rfl (hown.alloc _) ⟨wr.heap.size, 0, none⟩ 1 1 [.string u] rfl rfl ?c1 ?c2 ?c3 ?c4 ?c5 ?_)
            case c1 => exact one_cell _ _ _
            case c2 => intro x hx; simp at hx; subst hx; rfl
            case c3 => unfold maxLen; omega
            case c4 => omega
            case c5 => simp; omega
            · intro v' w4 hown' hgrow _
              have hB : Below w1.heap.size w1 w4 := (hw.alloc (by omega) _).grown hgrow (by simp; omega) (fun b hb => ((hown.alloc (.cells #[.string u] 9)).lt b hb).1)
              have hown4 : w4.ownsRow w1.heap.size 9 1 v' (full (P.take (k + 1))).length (strs (full (P.take (k + 1)))) := by
                rw [HKS.out, HEM.out]
                simp only [Bool.false_eq_true, if_false]
                rw [← strs_snoc, List.length_append, ← HU.out]; exact hown'
              clear hown' hgrow hown hw
              go_wp2_with fail
              go_roundw
              case rel => exact ⟨k + 1, by omega, by go_num, hown4, hB⟩
              case measure => simp [intOf]; omega
          · have HEM : Hid ((P[k]).isEmpty = true) := by
              show _ = _
              rw [ByteArray.toList_eq, HU.out] at hem
              exact hem
            go_wp2_with fail
            go_roundw
            case rel => exact ⟨k + 1, by omega, by go_num, by rw [HKS.out, if_pos HEM.out]; exact hown, hw⟩
            case measure => simp [intOf]; omega
        · obtain rfl : k = P.length := by omega
          rw [List.take_length] at hown hkl
          obtain ⟨ad2, cap2, hv2, hcm2, hnc2, _⟩ := own_slice hown
          subst hv2
          unfold maxLen at hcm2
          by_cases h20 : 20 < ((full P).length : Int)
          · have HR : Hid (splitS s.data.toList = ([], 2)) := by show _ = _; rw [HS.out, HK.out, if_pos (by omega)]
            go_wp2_with fail
            go_ret2
            exact ⟨.slice none 0 0, by rw [HR.out]; rfl, by rw [HR.out]; exact World.ownsRow_nil _ _ _ _, hb.trans (hw.mono hbs)⟩
          · have HR : Hid (splitS s.data.toList = (full P, 0)) := by show _ = _; rw [HS.out, HK.out, if_neg (by omega)]
            go_wp2_with fail
            go_ret2
            exact ⟨_, by rw [HR.out]; rfl, by rw [HR.out]; exact ownsRow_le' hown hbs, hb.trans (hw.mono hbs)⟩
end Go.Proofs.YtipfjpihciiikaaGreatDoor

/-
  What count of the document's answers computes, a contract over the program's text; no condition but that a string is no longer than Go allows.
-/
namespace Go.Proofs.YtipfjpihciiikaaGreatDoor
open Go.RowKit

theorem ret_in {a b : Int} (h : a = b) : Ending.returned (.int .i64 a) = .returned (.int .i64 b) := by rw [h]
theorem head_at (s : ByteArray) (h : 0 < s.size) : s.data.toList.head? = some s[0] := by
  have h' : 0 < s.data.toList.length := by rw [size_list]; exact h
  rw [List.head?_eq_getElem?, List.getElem?_eq_getElem h']
  rfl
theorem numb_18 (l : List UInt8) (h : l.all isDig = true) (hl : l.length ≤ 18) : 0 ≤ numb l ∧ numb l < 1000000000000000000 := by
  obtain ⟨a, b⟩ := numb_dig l h
  refine ⟨a, Int.lt_of_lt_of_le b ?_⟩
  have : (10 : Nat) ^ l.length ≤ 10 ^ 18 := Nat.pow_le_pow_right (by decide) hl
  have e : ((10 : Nat) ^ l.length : Int) = (10 : Int) ^ l.length := rfl
  omega

theorem cnt_no (l : List UInt8) (most : Int) (h : l.length = 0 ∨ 18 < l.length ∨ (1 < l.length ∧ l.head? = some 48) ∨ l.all isDig = false) : cnt l most = -1 := if_pos h
theorem cnt_big (l : List UInt8) (most : Int) (h : most < numb l) : cnt l most = -1 := by
  unfold cnt; split <;> first | rfl | exact if_pos h
theorem cnt_yes (l : List UInt8) (most : Int) (h : ¬ (l.length = 0 ∨ 18 < l.length ∨ (1 < l.length ∧ l.head? = some 48) ∨ l.all isDig = false)) (h' : ¬ most < numb l) : cnt l most = numb l := by
  unfold cnt; rw [if_neg h, if_neg h']

set_option maxHeartbeats 1000000 in
set_option maxRecDepth 100000 in
theorem count_go (s : ByteArray) (most : Int) (w : World) (h0 : s.size ≠ 0) (h18 : s.size ≤ 18) (hh : ¬ (1 < s.size ∧ s.data.toList.head? = some 48)) :
    Calls Tryz.prog 63 #[.string s, .int .i64 most] w fun e w' => e = .returned (.int .i64 (cnt s.data.toList most)) ∧ w' = w := by
  have hp : 0 < s.size := by omega
  have hl : s.data.toList.length = s.size := size_list s
  have HN : Hid (s.data.toList.all isDig = true → ¬ (s.data.toList.length = 0 ∨ 18 < s.data.toList.length ∨ (1 < s.data.toList.length ∧ s.data.toList.head? = some 48) ∨ s.data.toList.all isDig = false)) := by
    intro ha
    rintro (g | g | g | g)
    · omega
    · omega
    · exact hh (by rw [hl] at g; exact g)
    · rw [ha] at g; cases g
  have HF : Hid (s.data.toList.all isDig = false → cnt s.data.toList most = -1) := fun h => cnt_no _ _ (.inr (.inr (.inr h)))
  have he : s.toList.isEmpty = false := by rw [ByteArray.toList_eq, isEmpty_size]; simpa using h0
  have hd : decide (18 < (s.size : Int)) = false := decide_eq_false (by omega)
  have HE : Hid (s.size = 1 ∨ 1 < s.size ∧ s[0] ≠ 48) := by
    by_cases h1 : s.size = 1
    · exact .inl h1
    · exact .inr ⟨by omega, fun h => hh ⟨by omega, by rw [head_at s hp, h]⟩⟩
  clear hl hh
  have two : ∀ b : Bool, decide (1 < (s.size : Int)) = b → (b = true → ((s[0].toNat : Int) == 48) = false) → 
    Calls Tryz.prog 63 #[.string s, .int .i64 most] w fun e w' => e = .returned (.int .i64 (cnt s.data.toList most)) ∧ w' = w := by
    intro b hb hz
    cases b
    all_goals
      first | replace hz := hz rfl | clear hz
      go_enter Tryz.func63, Tryz.ntmps63
      go_wp2_with fail
      go_loop [5, 26] (fun n i => ∃ k : Nat, k ≤ s.size ∧ i = .int .i64 k ∧ n = .int .i64 (numb (s.data.toList.take k)) ∧ (s.data.toList.take k).all isDig = true) (fun _ i => s.size - (intOf i).toNat)
      case atStart => exact ⟨0, Nat.zero_le _, rfl, rfl, rfl⟩
      case round =>
        obtain ⟨k, hk, rfl, rfl, ha⟩ := hrel
        have HA : Hid ((s.data.toList.take k).all isDig = true) := ha
        have hbd := numb_18 _ ha (by rw [List.length_take, size_list]; omega)
        clear ha
        by_cases hlt : k < s.size
        · have HS : Hid (numb (s.data.toList.take (k + 1)) = numb (s.data.toList.take k) * 10 + (s[k].toNat : Int) - 48) := by
            show numb _ = _
            rw [take_snoc s k hlt, numb_snoc]
          have hc := s[k].toNat_lt
          by_cases c1 : (s[k].toNat : Int) < 48
          · have HX : Hid (s.data.toList.all isDig = false) := all_false s isDig k hlt (by
              cases h : isDig s[k]
              · rfl
              · have := (dig_iff _).1 h; omega)
            go_wp2_with fail
            go_ret
            exact ⟨ret_in (HF.out HX.out).symm, rfl⟩
          · by_cases c2 : 57 < (s[k].toNat : Int)
            · have HX : Hid (s.data.toList.all isDig = false) := all_false s isDig k hlt (by
                cases h : isDig s[k]
                · rfl
                · have := (dig_iff _).1 h; omega)
              go_wp2_with fail
              go_ret
              exact ⟨ret_in (HF.out HX.out).symm, rfl⟩
            · have hb2 := numb_18 (s.data.toList.take (k + 1)) (by
                rw [take_snoc s k hlt, List.all_append, HA.out, List.all_cons, (dig_iff _).2 (by omega)]; rfl) (by rw [List.length_take, size_list]; omega)
              rw [HS.out] at hb2
              have c3 : 48 ≤ (s[k].toNat : Int) := by omega
              have c4 : (s[k].toNat : Int) ≤ 57 := by omega
              clear c1 c2
              go_wp2_with fail
              go_round
              case rel => exact ⟨k + 1, by omega, by go_num, by rw [HS.out]; go_num, by rw [take_snoc s k hlt, List.all_append, HA.out, List.all_cons, (dig_iff _).2 (by omega)]; rfl⟩
              case measure => simp [intOf]; omega
        · obtain rfl : k = s.size := by omega
          have HA' : Hid (s.data.toList.all isDig = true) := by have := HA.out; rw [take_all] at this; exact this
          by_cases hm : most < numb (s.data.toList.take s.size)
          · have HM : Hid (most < numb s.data.toList) := by rw [take_all] at hm; exact hm
            go_wp2_with fail
            go_ret
            exact ⟨ret_in (cnt_big _ _ HM.out).symm, rfl⟩
          · have HM : Hid (numb s.data.toList ≤ most) := by rw [take_all] at hm; exact Int.not_lt.1 hm
            go_wp2_with fail
            go_ret
            exact ⟨ret_in (by rw [cnt_yes _ _ (HN.out HA'.out) (Int.not_lt.2 HM.out), take_all]), rfl⟩
  rcases HE.out with h1 | ⟨h1, h2⟩
  · exact two false (decide_eq_false (by omega)) (fun h => by cases h)
  · refine two true (decide_eq_true (by omega)) (fun _ => ?_)
    rw [beq_eq_false_iff_ne]
    intro h
    apply h2
    apply UInt8.toNat_inj.1
    show s[0].toNat = 48
    omega

set_option maxHeartbeats 1000000 in
theorem count_any (s : ByteArray) (most : Int) (w : World) (hs : s.size ≤ maxLen) :
    Calls Tryz.prog 63 #[.string s, .int .i64 most] w fun e w' => e = .returned (.int .i64 (cnt s.data.toList most)) ∧ w' = w := by
  unfold maxLen at hs
  have hl : s.data.toList.length = s.size := size_list s
  by_cases h0 : s.size = 0
  · have HC : Hid (cnt s.data.toList most = -1) := cnt_no _ _ (.inl (by omega))
    have he : s.toList.isEmpty = true := by rw [ByteArray.toList_eq, isEmpty_size]; simpa using h0
    clear hl
    go_enter Tryz.func63, Tryz.ntmps63
    go_wp2_with fail
    go_ret
    exact ⟨ret_in HC.out.symm, rfl⟩
  by_cases h18 : 18 < s.size
  · have HC : Hid (cnt s.data.toList most = -1) := cnt_no _ _ (.inr (.inl (by omega)))
    have he : s.toList.isEmpty = false := by rw [ByteArray.toList_eq, isEmpty_size]; simpa using h0
    have hd : decide (18 < (s.size : Int)) = true := decide_eq_true (by omega)
    clear hl
    go_enter Tryz.func63, Tryz.ntmps63
    go_wp2_with fail
    go_ret
    exact ⟨ret_in HC.out.symm, rfl⟩
  by_cases hh : 1 < s.size ∧ s.data.toList.head? = some 48
  · have HC : Hid (cnt s.data.toList most = -1) := cnt_no _ _ (.inr (.inr (.inl (by rw [hl]; exact hh))))
    have he : s.toList.isEmpty = false := by rw [ByteArray.toList_eq, isEmpty_size]; simpa using h0
    have hd : decide (18 < (s.size : Int)) = false := decide_eq_false (by omega)
    have h1 := hh.1
    have hp : 0 < s.size := by omega
    have hd1 : decide (1 < (s.size : Int)) = true := decide_eq_true (by omega)
    have hz : s[0] = 48 := by have := hh.2; rw [head_at s hp] at this; exact Option.some.inj this
    have hq : ((s[0].toNat : Int) == 48) = true := by rw [hz]; rfl
    clear hl hh hz
    go_enter Tryz.func63, Tryz.ntmps63
    go_wp2_with fail
    go_ret
    exact ⟨ret_in HC.out.symm, rfl⟩
  exact count_go s most w h0 (by omega) hh
end Go.Proofs.YtipfjpihciiikaaGreatDoor

/-
  What BodyKind of the document's answers computes; the fields are of bulk at most 1048576.
-/
namespace Go.Proofs.YtipfjpihciiikaaGreatDoor
open Go.RowKit

def teL : List UInt8 := [116, 114, 97, 110, 115, 102, 101, 114, 45, 101, 110, 99, 111, 100, 105, 110, 103]
def clL : List UInt8 := [99, 111, 110, 116, 101, 110, 116, 45, 108, 101, 110, 103, 116, 104]
theorem vals_te (ls : List Fld) : vals ls teL = vals ls teN := by
  have h : nm teL = nm teN := by
    have e : lower teL = lower teN := by decide +kernel
    funext x; show (lower x.1 == lower teL) = (lower x.1 == lower teN); rw [e]
  unfold vals; rw [h]
theorem vals_cl (ls : List Fld) : vals ls clL = vals ls clN := by
  have h : nm clL = nm clN := by
    have e : lower clL = lower clN := by decide +kernel
    funext x; show (lower x.1 == lower clL) = (lower x.1 == lower clN); rw [e]
  unfold vals; rw [h]

set_option maxHeartbeats 4000000 in
set_option maxRecDepth 100000 in
theorem rkind_never (m : ByteArray) (c : Int) (v : Value) (w : World) (h : never m.data.toList c = true) :
    Calls Tryz.prog 45 #[.bool false, .string m, .int .i64 c, v] w fun e w' => e = .returned (.tuple #[.int .i64 1, .int .i64 0, .int .i64 0]) ∧ Below w.heap.size w w' := by
  have he : (m.toList == [72, 69, 65, 68]) = (m.data.toList == headM) := by rw [ByteArray.toList_eq]; rfl
  unfold never at h
  cases h1 : m.data.toList == headM
  · rw [h1] at he h
    have h' : c < 200 ∨ (200 ≤ c ∧ c = 204) ∨ (200 ≤ c ∧ c ≠ 204 ∧ c = 304) := by
      simp at h; omega
    clear h1 h
    rcases h' with h | ⟨h, h'⟩ | ⟨h, h', h''⟩
    all_goals
      go_enter Tryz.func45, Tryz.ntmps45
      go_wp2_with fail
      go_ret3
      exact ⟨rfl, Below.refl _ _⟩
  · rw [h1] at he
    clear h1 h
    go_enter Tryz.func45, Tryz.ntmps45
    go_wp2_with fail
    go_ret3
    exact ⟨rfl, Below.refl _ _⟩

set_option maxHeartbeats 4000000 in
set_option maxRecDepth 100000 in
theorem rkind_at (req : Bool) (m : ByteArray) (c : Int) (v : Value) (ls : List Fld) (x y z : Int) (h : kd req m.data.toList c ls = (x, y, z)) (w : World) (hf : Fl w v ls) (hl : bulkF ls ≤ 1048576) :
    Calls Tryz.prog 45 #[.bool req, .string m, .int .i64 c, v] w fun e w' => e = .returned (.tuple #[.int .i64 x, .int .i64 y, .int .i64 z]) ∧ Below w.heap.size w w' := by
  cases hn : (!req && never m.data.toList c)
  · have HF : Hid (Fl w v ls) := hf
    have HL : Hid (bulkF ls ≤ 1048576) := hl
    have he : (m.toList == [72, 69, 65, 68]) = (m.data.toList == headM) := by rw [ByteArray.toList_eq]; rfl
    have key : req = true ∨ (req = false ∧ (m.toList == [72, 69, 65, 68]) = false ∧ decide (c < 200) = false ∧ (c == 204) = false ∧ (c == 304) = false) := by
      cases req
      · right
        have hn' : never m.data.toList c = false := by simpa using hn
        unfold never at hn'
        rw [← he] at hn'
        simp only [Bool.or_eq_false_iff, decide_eq_false_iff_not] at hn'
        exact ⟨rfl, hn'.1.1.1, decide_eq_false hn'.1.1.2, beq_eq_false_iff_ne.2 hn'.1.2, beq_eq_false_iff_ne.2 hn'.2⟩
      · exact Or.inl rfl
    have hk : kd req m.data.toList c ls = if (!(vals ls teN).isEmpty) = true then (if (!(vals ls clN).isEmpty || (lower (jn (vals ls teN)) != chkN)) = true then (0, 0, 10) else (3, 0, 0))
      else if (!(vals ls clN).isEmpty) = true then kdL (jn (vals ls clN)) else if req = true then (1, 0, 0) else (4, 0, 0) := by unfold kd; rw [hn]; rfl
    rw [hk] at h
    obtain ⟨t1, ht1⟩ : ∃ t : ByteArray, t.data.toList = jn (vals ls teN) := ⟨⟨(jn (vals ls teN)).toArray⟩, rfl⟩
    obtain ⟨t2, ht2⟩ : ∃ t : ByteArray, t.data.toList = jn (vals ls clN) := ⟨⟨(jn (vals ls clN)).toArray⟩, rfl⟩
    obtain ⟨t3, ht3⟩ : ∃ t : ByteArray, t.data.toList = lower t1.data.toList := ⟨⟨(lower t1.data.toList).toArray⟩, rfl⟩
    obtain ⟨b1, hb1⟩ : ∃ b : Bool, b = !(vals ls teN).isEmpty := ⟨_, rfl⟩
    obtain ⟨b2, hb2⟩ : ∃ b : Bool, b = !(vals ls clN).isEmpty := ⟨_, rfl⟩
    have H1 : Hid (t1.data.toList = jn (vals ls teL)) := by show _ = _; rw [ht1, vals_te]
    have H2 : Hid (t2.data.toList = jn (vals ls clL)) := by show _ = _; rw [ht2, vals_cl]
    have H3 : Hid (t3.data.toList = lower t1.data.toList) := ht3
    have B1 : Hid (b1 = !(vals ls teL).isEmpty) := by show _ = _; rw [hb1, vals_te]
    have B2 : Hid (b2 = !(vals ls clL).isEmpty) := by show _ = _; rw [hb2, vals_cl]
    have Z1 : Hid (t1.size ≤ 1048576) := by show _ ≤ _; rw [← size_list, ht1]; exact Nat.le_trans (jn_bulk _ _) hl
    have Z2 : Hid (t2.size ≤ 1048576) := by show _ ≤ _; rw [← size_list, ht2]; exact Nat.le_trans (jn_bulk _ _) hl
    have hz : (t3.toList != [99, 104, 117, 110, 107, 101, 100]) = (lower (jn (vals ls teN)) != chkN) := by rw [ByteArray.toList_eq, ht3, ht1]; rfl
    rw [← hb1, ← hb2, ← hz, ← ht2] at h
    have HH : Hid ((if b1 = true then (if (b2 || (t3.toList != [99, 104, 117, 110, 107, 101, 100])) = true then (0, 0, 10) else (3, 0, 0)) else if b2 = true then kdL t2.data.toList else if req = true then (1, 0, 0) else (4, 0, 0)) = ((x, y, z) : Int × Int × Int)) := h
    clear h hk ht1 ht2 ht3 hb1 hb2 hz hn he hf hl
    rcases key with rfl | ⟨rfl, k1, k2, k3, k4⟩
    all_goals
      go_enter Tryz.func45, Tryz.ntmps45
      go_wp2_with fail
      refine (rget_at v ls ⟨#[99, 111, 110, 116, 101, 110, 116, 45, 108, 101, 110, 103, 116, 104]⟩ t2 b2 H2.out B2.out _ HF.out HL.out (by decide)).mono ?_
      rintro e w1 ⟨rfl, hw1⟩
      go_wp2_with fail
      refine (rget_at v ls ⟨#[116, 114, 97, 110, 115, 102, 101, 114, 45, 101, 110, 99, 111, 100, 105, 110, 103]⟩ t1 b1 H1.out B1.out _ (HF.out.below hw1) HL.out (by decide)).mono ?_
      rintro e w2 ⟨rfl, hw2⟩
      have hw := hw1.trans (hw2.mono hw1.size)
      clear hw1 hw2
      cases b1
      · cases b2
        · go_wp2_with fail
          go_ret3
          exact ⟨ret_3i HH.out, hw⟩
        · have HK0 : Hid (kdL t2.data.toList = (x, y, z)) := HH.out
          go_wp2_with fail
          refine (rsplit_any t2 _).mono ?_
          rintro e w3 ⟨v3, rfl, hown, hw3⟩
          have hb := hw.trans (hw3.mono hw.size)
          clear hw hw3
          by_cases h0 : (splitS t2.data.toList).2 = 0
          · have HK : Hid (kdP (splitS t2.data.toList).1 = (x, y, z)) := by show _ = _; rw [← HK0.out]; unfold kdL; rw [if_pos h0]
            have hsp := splitS_parts t2.data.toList
            rw [h0]
            generalize (splitS t2.data.toList).1 = P at hown hsp HK
            clear h0 HH HK0
            obtain ⟨ad, cap, hv, hcm, hnc, hc⟩ := own_slice hown
            subst hv
            unfold maxLen at hcm
            match P, hown, hsp, HK, hnc, hc with
            | [], hown, hsp, HK, hnc, hc =>
              go_wp2_with fail
              go_ret3
              exact ⟨ret_3i HK.out, hb⟩
            | p :: r, hown, hsp, HK, hnc, hc =>
              obtain ⟨g, rfl, hgB, hgs, hce⟩ := hc (by simp)
              obtain ⟨N, hN⟩ : ∃ N, N = (p :: r).length := ⟨_, rfl⟩
              have hN0 : 0 < N := by rw [hN]; simp
              have hN20 : N ≤ 20 := by rw [hN]; exact hsp.1
              have hNi : (0 : Int) < N := by omega
              obtain ⟨q, hq⟩ : ∃ q : ByteArray, q = ⟨p.toArray⟩ := ⟨_, rfl⟩
              have HQ : Hid (q.data.toList = p) := by show _ = _; rw [hq]
              have hqs : q.size ≤ 1000 := by rw [← size_list, HQ.out]; exact hsp.2 p (by simp)
              have c0 : w3.cell? ⟨g, 0, none⟩ = some (.string q) := by rw [hce 0 (by simp), hq]; exact strs_get (p :: r) 0 (by simp)
              have HC : Hid (∀ (j : Nat) (h : j < (p :: r).length), w3.cell? ⟨g, j, none⟩ = some (.string ⟨((p :: r)[j]).toArray⟩)) := by
                intro j hj
                rw [hce j hj]; exact strs_get (p :: r) j hj
              have HN : Hid (N = (p :: r).length) := hN
              have HCN : Hid (cnt q.data.toList 9999 = if (rdLn p).2 = true then (rdLn p).1 else -1) := by show _ = _; rw [HQ.out, cnt_rd]
              rw [← hN] at hnc
              simp only [← hN]
              clear hce hc hown hsp hq hN
              obtain ⟨n, hn⟩ : ∃ n, n = cnt q.data.toList 9999 := ⟨_, rfl⟩
              have HNN : Hid (cnt q.data.toList 9999 = n) := hn.symm
              have hnv : n = if (rdLn p).2 = true then (rdLn p).1 else -1 := by rw [hn, HCN.out]
              clear hn
              go_wp2_with fail
              refine (count_any q 9999 _ (by unfold maxLen; omega)).mono ?_
              rintro e w4 ⟨rfl, rfl⟩
              rw [HNN.out]
              cases hrd : (rdLn p).2
              · rw [hrd] at hnv
                simp only [Bool.false_eq_true, if_false] at hnv
                subst hnv
                have HX : Hid (((0, 0, 10) : Int × Int × Int) = (x, y, z)) := by
                  show _ = _
                  rw [← HK.out]
                  cases ha : r.all (· == p)
                  · rw [kdP_diff p r ha]
                  · rw [kdP_same p r ha, hrd]; rfl
                go_wp2_with fail
                go_loopw [76] (fun i wr => i = .int .i64 0 ∧ wr = w4) (fun _ _ => 0)
                case atStart => exact ⟨rfl, rfl⟩
                case round =>
                  obtain ⟨rfl, rfl⟩ := hrel
                  go_wp2_with fail
                  go_ret3
                  exact ⟨ret_3i HX.out, hb⟩
              · obtain ⟨h1, h2, h3, h4⟩ := rdLn_bd p hrd
                rw [hrd] at hnv
                simp only [if_true] at hnv
                rw [← hnv] at h1 h2
                have HV : Hid (n = (rdLn p).1) := hnv
                have HRD : Hid ((rdLn p).2 = true) := hrd
                clear hnv hrd h3 h4
                go_wp2_with fail
                go_loopw [76] (fun i wr => ∃ k : Nat, k ≤ N ∧ i = .int .i64 k ∧ ((p :: r).take k).all (· == p) = true ∧ wr = w4) (fun i _ => N - (intOf i).toNat)
                case atStart => exact ⟨0, Nat.zero_le _, rfl, rfl, rfl⟩
                case round =>
                  obtain ⟨k, hk, rfl, hall, rfl⟩ := hrel
                  have HA : Hid (((p :: r).take k).all (· == p) = true) := hall
                  clear hall
                  by_cases hlt : k < N
                  · have hkl : k < (p :: r).length := by rw [← HN.out]; exact hlt
                    have hcell := HC.out k hkl
                    obtain ⟨u, hu⟩ : ∃ u : ByteArray, u = ⟨((p :: r)[k]).toArray⟩ := ⟨_, rfl⟩
                    rw [← hu] at hcell
                    have hki : (k : Int) < (N : Int) := by omega
                    have hk0 : (0 : Int) ≤ (k : Int) := by omega
                    cases hq : u.toList == q.toList
                    · have HM : Hid ((p :: r).all (· == p) = false) := by
                        refine all_miss p (p :: r) k hkl ?_
                        intro e
                        rw [ByteArray.toList_eq, ByteArray.toList_eq, HQ.out, hu, e] at hq
                        simp at hq
                      clear hu
                      go_wp2_with fail
                      go_ret3
                      refine ⟨ret_3i ?_, hb⟩
                      rw [← HK.out, kdP_diff]
                      have := HM.out
                      simpa using this
                    · have HM : Hid (((p :: r).take (k + 1)).all (· == p) = true) := by
                        refine all_take p (p :: r) k hkl HA.out ?_
                        rw [ByteArray.toList_eq, ByteArray.toList_eq, HQ.out, hu] at hq
                        simpa using hq
                      clear hu
                      go_wp2_with fail
                      go_roundw
                      case rel => exact ⟨k + 1, by omega, by go_num, HM.out, by first | rfl | trivial⟩
                      case measure => simp [intOf]; omega
                  · have hkN : k = N := by omega
                    subst hkN
                    have HS : Hid (r.all (· == p) = true) := by
                      show r.all (· == p) = true
                      have := HA.out
                      rw [HN.out, List.take_length] at this
                      simpa using this
                    have HKK : Hid ((if 5000 < n then (0, 0, 2) else (2, n, 0)) = ((x, y, z) : Int × Int × Int)) := by
                      show _ = _; rw [← HK.out, kdP_same p r HS.out, HRD.out, HV.out]; rfl
                    by_cases h5 : 5000 < n
                    · have HX : Hid (((0, 0, 2) : Int × Int × Int) = (x, y, z)) := by have := HKK.out; rw [if_pos h5] at this; exact this
                      go_wp2_with fail
                      go_ret3
                      exact ⟨ret_3i HX.out, hb⟩
                    · have HX : Hid (((2, n, 0) : Int × Int × Int) = (x, y, z)) := by have := HKK.out; rw [if_neg h5] at this; exact this
                      go_wp2_with fail
                      go_ret3
                      exact ⟨ret_3i HX.out, hb⟩
          · have HK : Hid (((0, 0, 10) : Int × Int × Int) = (x, y, z)) := by show _ = _; rw [← HK0.out]; unfold kdL; rw [if_neg h0]
            generalize (splitS t2.data.toList).2 = c2 at h0
            clear hown HH HK0
            go_wp2_with fail
            go_ret3
            exact ⟨ret_3i HK.out, hb⟩
      · cases b2
        · cases hc : (t3.toList == [99, 104, 117, 110, 107, 101, 100])
          · have HX : Hid (((0, 0, 10) : Int × Int × Int) = (x, y, z)) := by have := HH.out; rw [bne, hc] at this; exact this
            go_wp2_with fail
            refine (rlower_at t1 t3 H3.out _ (by have := Z1.out; omega)).mono ?_
            rintro e w3 ⟨rfl, rfl⟩
            go_wp2_with fail
            go_ret3
            exact ⟨ret_3i HX.out, hw⟩
          · have HX : Hid (((3, 0, 0) : Int × Int × Int) = (x, y, z)) := by have := HH.out; rw [bne, hc] at this; exact this
            go_wp2_with fail
            refine (rlower_at t1 t3 H3.out _ (by have := Z1.out; omega)).mono ?_
            rintro e w3 ⟨rfl, rfl⟩
            go_wp2_with fail
            go_ret3
            exact ⟨ret_3i HX.out, hw⟩
        · go_wp2_with fail
          go_ret3
          exact ⟨ret_3i HH.out, hw⟩
  · have hr : req = false := by cases req <;> simp_all
    have hv : never m.data.toList c = true := by rw [hr] at hn; simpa using hn
    subst hr
    have hk : kd false m.data.toList c ls = (1, 0, 0) := by unfold kd; rw [hv]; rfl
    rw [hk] at h
    simp only [Prod.mk.injEq] at h
    obtain ⟨rfl, rfl, rfl⟩ := h
    exact rkind_never m c v w hv
end Go.Proofs.YtipfjpihciiikaaGreatDoor

/-
  What hex and ChunksOf of the document's answers compute.
-/
namespace Go.Proofs.YtipfjpihciiikaaGreatDoor
open Go.RowKit

def d16 : ByteArray := ⟨#[48, 49, 50, 51, 52, 53, 54, 55, 56, 57, 97, 98, 99, 100, 101, 102]⟩
theorem d16_at (u : Nat) (h : u < 16) : d16.extract u (u + 1) = ⟨(hexd u).toArray⟩ := by
  have key : ∀ n : Fin 16, (d16.extract n.val (n.val + 1)).data.toList = [hx n.val] := by decide +kernel
  rw [hexd_one u h]
  apply ByteArray.ext; apply Array.ext'; exact key ⟨u, h⟩

set_option maxHeartbeats 1000000 in
set_option maxRecDepth 100000 in
theorem rhex_any (N : Nat) : ∀ (u : Nat) (_ : u ≤ N) (_ : u < 65536) (w : World),
    Calls Tryz.prog 82 #[.int .i64 (u : Int)] w fun e w' => e = .returned (.string ⟨(hexd u).toArray⟩) ∧ w' = w := by
  induction N with
  | zero =>
    intro u h1 h2 w
    obtain rfl : u = 0 := by omega
    go_enter Tryz.func82, Tryz.ntmps82
    go_wp2_with fail
    go_ret
    exact ⟨ret_str (by rw [hexd_one 0 (by omega)]; decide +kernel), rfl⟩
  | succ N ih =>
    intro u h1 h2 w
    by_cases h16 : u < 16
    · have hsl : ∀ w, (Instr.slice 9 (.string d16) (some (.int .i64 (u : Int))) (some (.int .i64 ((u : Int) + 1))) none).run Tryz.prog w = .ok (.string (d16.extract u (u + 1))) w := fun w => by
        rw [run_slice_string w 9 d16 .i64 .i64 _ _ Tryz.underlying9 (by omega) (by omega) (by show (u : Int) + 1 ≤ 16; omega), show ((u : Int)).toNat = u by omega, show ((u : Int) + 1).toNat = u + 1 by omega]
      have hi : (u : Int) < 16 := by omega
      clear ih
      go_enter Tryz.func82, Tryz.ntmps82
      go_name_bytes_deep 12 DG hDG
      have eDG : DG = d16 := by rw [← hDG]; rfl
      subst eDG
      clear hDG
      go_wp2_with fail
      go_ret
      exact ⟨ret_str (d16_at u h16), rfl⟩
    · have c1 := ih (u / 16) (by omega) (by omega) w
      have c2 := ih (u % 16) (by omega) (by omega) w
      obtain ⟨t1, ht1⟩ : ∃ t : ByteArray, t = ⟨(hexd (u / 16)).toArray⟩ := ⟨_, rfl⟩
      obtain ⟨t2, ht2⟩ : ∃ t : ByteArray, t = ⟨(hexd (u % 16)).toArray⟩ := ⟨_, rfl⟩
      have hl1 : t1.size ≤ 4 := by rw [← size_list, ht1]; exact hexd_len _ (by omega)
      have hl2 : t2.size ≤ 4 := by rw [← size_list, ht2]; exact hexd_len _ (by omega)
      have HL : Hid (hexd u = t1.data.toList ++ t2.data.toList) := by
        show hexd u = _
        rw [hexd_step u h16, ht1, ht2, hexd_one (u % 16) (by omega)]
      rw [← ht1, Int.natCast_ediv] at c1
      rw [← ht2, Int.natCast_emod] at c2
      have hi : ¬ (u : Int) < 16 := by omega
      clear ih ht1 ht2
      go_enter Tryz.func82, Tryz.ntmps82
      go_wp2_with fail
      refine c1.mono ?_
      rintro e w1 ⟨rfl, rfl⟩
      go_wp2_with fail
      refine c2.mono ?_
      rintro e w2 ⟨rfl, rfl⟩
      go_wp2_with fail
      go_ret
      refine ⟨ret_str ?_, rfl⟩
      apply ByteArray.ext; apply Array.ext'
      rw [HL.out, ByteArray.data_append, Array.toList_append]

theorem ret_sve {a b : ByteArray} {v : Value} (h : a = b) : Ending.returned (.tuple #[.string a, v]) = .returned (.tuple #[.string b, v]) := by rw [h]
set_option maxHeartbeats 2000000 in
set_option maxRecDepth 100000 in
theorem rchunks_any (size : Int) (n : Nat) (hsn : size = (n : Int) + 1) (h63 : size ≤ 9223372036854775807) (N : Nat) : ∀ (s : ByteArray) (_ : s.size ≤ N) (_ : s.size ≤ 5000) (w : World),
    Calls Tryz.prog 46 #[.string s, .int .i64 size] w fun e w' => e = .returned (.tuple #[.string ⟨(encS n s.data.toList).toArray⟩, .int .i64 0]) ∧ Below w.heap.size w w' := by
  have hns : ¬ size < 1 := by omega
  have HSN : Hid (size = (n : Int) + 1) := hsn
  clear hsn
  induction N with
  | zero =>
    intro s hN h5 w
    have h0 : s.size = 0 := by omega
    have hse : s = ⟨#[]⟩ := by apply ByteArray.ext; apply Array.ext'; exact List.eq_nil_of_length_eq_zero (by rw [size_list]; exact h0)
    subst hse
    have HE : Hid (encS n (⟨#[]⟩ : ByteArray).data.toList = endC) := encS_nil _ _ rfl
    go_enter Tryz.func46, Tryz.ntmps46
    go_wp2_with fail
    go_ret2
    exact ⟨ret_sve (by rw [HE.out]; rfl), Below.refl _ _⟩
  | succ N ih =>
    intro s hN h5 w
    by_cases h0 : s.size = 0
    · have hse : s = ⟨#[]⟩ := by apply ByteArray.ext; apply Array.ext'; exact List.eq_nil_of_length_eq_zero (by rw [size_list]; exact h0)
      subst hse
      have HE : Hid (encS n (⟨#[]⟩ : ByteArray).data.toList = endC) := encS_nil _ _ rfl
      clear ih h0
      go_enter Tryz.func46, Tryz.ntmps46
      go_wp2_with fail
      go_ret2
      exact ⟨ret_sve (by rw [HE.out]; rfl), Below.refl _ _⟩
    · have hsn := HSN.out
      obtain ⟨m, hm⟩ : ∃ m : Nat, (m : Int) = min size (s.size : Int) := ⟨(min size (s.size : Int)).toNat, by omega⟩
      have hm1 : 1 ≤ m := by omega
      have hms : m ≤ s.size := by omega
      have hmin : min size (s.size : Int) = (m : Int) := hm.symm
      have hmn : m = min (n + 1) s.data.toList.length := by rw [size_list]; omega
      obtain ⟨r, hr⟩ : ∃ r : ByteArray, r = s.extract m s.size := ⟨_, rfl⟩
      have hrl : r.data.toList = s.data.toList.drop m := by
        rw [hr, Lib.extract_data, List.take_of_length_le (by rw [List.length_drop, size_list]; omega)]
      have hrs : r.size = s.size - m := by rw [← size_list, hrl, List.length_drop, size_list]
      have c := ih r (by omega) (by omega)
      obtain ⟨t, ht⟩ : ∃ t : ByteArray, t = ⟨(encS n r.data.toList).toArray⟩ := ⟨_, rfl⟩
      rw [← ht] at c
      have htl : t.size ≤ 9 * r.size + 5 := by rw [← size_list, ht, ← size_list r]; exact encS_len _ _ _ (Nat.le_refl _) (by rw [size_list]; omega)
      obtain ⟨g, hg⟩ : ∃ g : ByteArray, g = ⟨(hexd m).toArray⟩ := ⟨_, rfl⟩
      have hgl : g.size ≤ 4 := by rw [← size_list, hg]; exact hexd_len _ (by omega)
      obtain ⟨a, ha⟩ : ∃ a : ByteArray, a = s.extract 0 m := ⟨_, rfl⟩
      have hal : a.data.toList = s.data.toList.take m := by rw [ha, Lib.extract_data, List.drop_zero]; rfl
      have has : a.size = m := by rw [← size_list, hal, List.length_take, size_list]; omega
      have HE : Hid (encS n s.data.toList = g.data.toList ++ ([13, 10] ++ (a.data.toList ++ ([13, 10] ++ t.data.toList)))) := by
        show _ = _
        rw [encS_step _ _ (by rw [size_list]; exact h0) m hmn, hg, hal, ht, hrl]
      have hsl : ∀ w, (Instr.slice 9 (.string s) (some (.int .i64 (m : Int))) none none).run Tryz.prog w = .ok (.string r) w := fun w => by
        rw [run_slice_string_l w 9 s Tryz.underlying9 .i64 (m : Int) (by omega) (by omega), hr]; rfl
      have hsl2 : ∀ w, (Instr.slice 9 (.string s) none (some (.int .i64 (m : Int))) none).run Tryz.prog w = .ok (.string a) w := fun w => by
        rw [run_slice_string_h w 9 s Tryz.underlying9 .i64 (m : Int) (by omega) (by omega), ha]; rfl
      have hne : (s.toList == []) = false := by
        rw [ByteArray.toList_eq, beq_eq_false_iff_ne]
        intro e; have := size_list s; rw [e] at this; simp at this; omega
      have hn5 : ¬ (5000 : Int) < (s.size : Int) := by omega
      have HG : Hid (g = ⟨(hexd m).toArray⟩) := hg
      have hA1 : ¬ 9223372036854775807 < g.size + 2 := by omega
      have hA2 : ¬ 9223372036854775807 < g.size + 2 + a.size := by omega
      have hA3 : ¬ 9223372036854775807 < g.size + 2 + a.size + 2 := by omega
      have hA4 : ¬ 9223372036854775807 < g.size + 2 + a.size + 2 + t.size := by omega
      clear ih hm hr ht hg ha hal hrl hmn hsn has hrs
      have mixed : Tryz.prog.follows Departure.mixedOrders = true := by kernel_rfl
      go_enter Tryz.func46, Tryz.ntmps46
      go_wp2_with fail
      refine (c _).mono ?_
      rintro e w1 ⟨rfl, hb1⟩
      have HX : ∀ w, Calls Tryz.prog 82 #[.int .i64 (m : Int)] w fun e w' => e = .returned (.string g) ∧ w' = w := fun w => by
        rw [HG.out]; exact rhex_any m m (Nat.le_refl _) (by omega) w
      have HXX : Hid (∀ w, Calls Tryz.prog 82 #[.int .i64 (m : Int)] w fun e w' => e = .returned (.string g) ∧ w' = w) := HX
      clear HX c
      go_wp2_with fail
      go_quiet (first | (go_at_call 82; exact Calls.quiet_of_same (HXX.out _)))
      go_wp2_with fail
      go_ret2
      refine ⟨ret_sve ?_, hb1.trans (drewN_below _ _ _)⟩
      apply ByteArray.ext; apply Array.ext'
      rw [HE.out]
      simp
theorem rchunksE_at (s x : ByteArray) (size c : Int) (h : encE s.data.toList size = (x.data.toList, c)) (hw : size ≤ 9223372036854775807) (w : World) :
    Calls Tryz.prog 46 #[.string s, .int .i64 size] w fun e w' => e = .returned (.tuple #[.string x, .int .i64 c]) ∧ Below w.heap.size w w' := by
  unfold encE at h
  by_cases h1 : size < 1
  · rw [if_pos h1] at h
    simp only [Prod.mk.injEq] at h
    obtain ⟨h2, rfl⟩ := h
    have hx : (⟨#[]⟩ : ByteArray) = x := by apply ByteArray.ext; apply Array.ext'; exact h2
    subst hx
    clear h2
    go_enter Tryz.func46, Tryz.ntmps46
    go_wp2_with fail
    go_ret2
    exact ⟨rfl, Below.refl _ _⟩
  · rw [if_neg h1] at h
    by_cases h5 : 5000 < s.data.toList.length
    · rw [if_pos h5] at h
      simp only [Prod.mk.injEq] at h
      obtain ⟨h2, rfl⟩ := h
      have hx : (⟨#[]⟩ : ByteArray) = x := by apply ByteArray.ext; apply Array.ext'; exact h2
      subst hx
      rw [size_list] at h5
      have hi5 : (5000 : Int) < (s.size : Int) := by omega
      clear h2 h5
      go_enter Tryz.func46, Tryz.ntmps46
      go_wp2_with fail
      go_ret2
      exact ⟨rfl, Below.refl _ _⟩
    · rw [if_neg h5] at h
      simp only [Prod.mk.injEq] at h
      obtain ⟨h2, rfl⟩ := h
      have hx : (⟨(encS (size - 1).toNat s.data.toList).toArray⟩ : ByteArray) = x := by apply ByteArray.ext; apply Array.ext'; exact h2
      rw [← hx]
      exact rchunks_any size (size - 1).toNat (by omega) hw s.size s (Nat.le_refl _) (by rw [size_list] at h5; omega) w
end Go.Proofs.YtipfjpihciiikaaGreatDoor
