/-
  What readField of package field computes; a line has at most 1100 bytes, and the package variable that the library reads holds some number.
-/
import Derived.Test.YtipfjpihciiikaaGreatDoorMd
import Derived.Test.YtipfjpihciiikaaGreatDoorShelf
import Derived.Test.YtipfjpihciiikaaGreatDoorRows
import Derived.Deep.RegionHeld3
import Derived.BigQuiet
import Derived.Deep.QuietTactic
namespace Go.Proofs.YtipfjpihciiikaaGreatDoor
open Go.RowKit

set_option maxHeartbeats 2000000 in
set_option maxRecDepth 100000 in
theorem readField_at (s x y : ByteArray) (c : Int) (h : rdF s.data.toList = ((x.data.toList, y.data.toList), c)) (m : Int) (w : World) (hm : w.cell? ⟨0, 0, none⟩ = some (.int .i64 m)) (hs : s.size ≤ 1100) :
    Calls Tryz.prog 86 #[.string s] w fun e w' => e = .returned (.tuple #[.agg #[.string x, .string y], .int .i64 c]) ∧ Below w.heap.size w w' := by
  have HM : Hid ((w.alloc (.cells #[.string ⟨#[]⟩, .string ⟨#[]⟩] 57)).cell? ⟨0, 0, none⟩ = some (.int .i64 m)) := by
    show _ = _
    rw [World.cell?_alloc_lt _ _ _ (cell_in hm)]; exact hm
  have HG0 : Hid ((w.alloc (.cells #[.string ⟨#[]⟩, .string ⟨#[]⟩] 57)).heap[w.heap.size]? = some (.cells #[.string ⟨#[]⟩, .string ⟨#[]⟩] 57 (0, 0))) := pair_new _ _ _ _
  have HB0 : Hid (Below w.heap.size w (w.alloc (.cells #[.string ⟨#[]⟩, .string ⟨#[]⟩] 57))) := (Below.refl _ w).alloc (Nat.le_refl _) _
  clear hm
  rcases index_two' s.data.toList [58] with hi | ⟨k, hi, hk⟩
  · have HC : Hid (Lib.cut s.data.toList (⟨#[58]⟩ : ByteArray).data.toList = (s.data.toList, (⟨#[]⟩ : ByteArray).data.toList, false)) := cut_no _ _ hi
    rw [rdF_no _ hi] at h
    simp only [Prod.mk.injEq] at h
    obtain ⟨⟨h1, h2⟩, rfl⟩ := h
    obtain rfl : (⟨#[]⟩ : ByteArray) = x := mk_self x [] h1.symm
    obtain rfl : (⟨#[]⟩ : ByteArray) = y := mk_self y [] h2.symm
    clear hi h1 h2
    go_enter Tryz.func86, Tryz.ntmps86
    go_wp2_with fail
    refine (scut_at s _ s ⟨#[]⟩ false HC.out m _ HM.out (by omega)).mono ?_
    rintro e w1 ⟨rfl, nd, rfl⟩
    go_wp2_with fail
    refine bodyPost_ret (v := .tuple #[.agg #[.string ⟨#[]⟩, .string ⟨#[]⟩], .int .i64 3]) (by simp [results, Tryz.results86, go_sem]) rfl ⟨rfl, ?_⟩
    exact ((HB0.out.trans (drewN_below _ _ _)).setCell (p := ⟨w.heap.size, 0, none⟩) (Nat.le_refl _) _).setCell (p := ⟨w.heap.size, 1, none⟩) (Nat.le_refl _) _
  · obtain ⟨a, ha⟩ : ∃ a : ByteArray, a.data.toList = s.data.toList.take k := ⟨⟨(s.data.toList.take k).toArray⟩, rfl⟩
    obtain ⟨b, hb⟩ : ∃ b : ByteArray, b.data.toList = s.data.toList.drop (k + 1) := ⟨⟨(s.data.toList.drop (k + 1)).toArray⟩, rfl⟩
    obtain ⟨t, ht⟩ : ∃ t : ByteArray, t.data.toList = trimL b.data.toList := ⟨⟨(trimL b.data.toList).toArray⟩, rfl⟩
    have HT : Hid (t.data.toList = trimL b.data.toList) := ht
    have HC : Hid (Lib.cut s.data.toList (⟨#[58]⟩ : ByteArray).data.toList = (a.data.toList, b.data.toList, true)) := by
      show _ = _
      rw [ha, hb]; exact cut_yes _ _ k hi
    have hsz := size_list s
    have has : a.size ≤ 1100 := by rw [← size_list, ha, List.length_take]; omega
    have hbs : b.size ≤ 1100 := by rw [← size_list, hb, List.length_drop]; omega
    have hts : t.size ≤ 1100 := by rw [← size_list, ht]; have := trimL_len b.data.toList; rw [size_list] at this; omega
    have HA : Hid (a.size ≤ maxLen) := by show _ ≤ _; unfold maxLen; omega
    have HTS : Hid (t.size ≤ maxLen) := by show _ ≤ _; unfold maxLen; omega
    by_cases hc : chk1 (a.data.toList, t.data.toList) = 0
    · have HCH : Hid (chk1 (a.data.toList, t.data.toList) = 0) := hc
      rw [rdF_ok _ k hi (by rw [← ha, ← hb, ← ht]; exact hc), ← ha, ← hb, ← ht] at h
      simp only [Prod.mk.injEq] at h
      obtain ⟨⟨h1, h2⟩, rfl⟩ := h
      obtain rfl : a = x := mk_self x _ h1.symm
      obtain rfl : t = y := mk_self y _ h2.symm
      clear hi h1 h2 hc ha hb ht hk
      go_enter Tryz.func86, Tryz.ntmps86
      go_wp2_with fail
      refine (scut_at _ _ a b true HC.out m _ HM.out (by omega)).mono ?_
      rintro e w1 ⟨rfl, nd, rfl⟩
      have HG1 : Hid (((w.alloc (.cells #[.string ⟨#[]⟩, .string ⟨#[]⟩] 57)).drewN nd).heap[w.heap.size]? = some (.cells #[.string ⟨#[]⟩, .string ⟨#[]⟩] 57 (0, 0))) := pair_below HG0.out (drewN_below _ _ _)
      have HB1 := HB0.out.trans (drewN_below w.heap.size _ nd)
      go_wp2_with fail
      refine (trim_at b t HT.out _ (by omega)).mono ?_
      rintro e w2 ⟨rfl, hb2⟩
      have HG2 : Hid (w2.heap[w.heap.size]? = some (.cells #[.string ⟨#[]⟩, .string ⟨#[]⟩] 57 (0, 0))) := pair_below HG1.out hb2
      have HB2 := HB1.trans (hb2.mono HB1.size)
      have hl2 := HB2.size
      have HG3 : Hid ((w2.alloc (.cells #[.string a, .string t] 57)).heap[w.heap.size]? = some (.cells #[.string ⟨#[]⟩, .string ⟨#[]⟩] 57 (0, 0))) := pair_below HG2.out ((Below.refl _ w2).alloc (Nat.le_refl _) _)
      have HN3 : Hid ((w2.alloc (.cells #[.string a, .string t] 57)).heap[w2.heap.size]? = some (.cells #[.string a, .string t] 57 (0, 0))) := pair_new _ _ _ _
      have HB3 := HB2.alloc hl2 (.cells #[.string a, .string t] 57)
      clear hb2
      go_wp2_with fail
      refine (checkOne_any a t _ HA.out HTS.out).mono ?_
      rintro e w4 ⟨rfl, hb4⟩
      rw [HCH.out]
      have HG4 : Hid (w4.heap[w.heap.size]? = some (.cells #[.string ⟨#[]⟩, .string ⟨#[]⟩] 57 (0, 0))) := pair_below HG3.out hb4
      have HN4 : Hid (w4.heap[w2.heap.size]? = some (.cells #[.string a, .string t] 57 (0, 0))) := pair_below HN3.out hb4
      have HB4 := HB3.trans (hb4.mono HB3.size)
      obtain ⟨n1, n2, _, _, _⟩ := pair_all HN4.out
      clear hb4
      go_wp2_with fail
      refine (fclone_any a t _ (by omega) (by omega)).mono ?_
      rintro e w5 ⟨rfl, hb5⟩
      have HG5 : Hid (w5.heap[w.heap.size]? = some (.cells #[.string ⟨#[]⟩, .string ⟨#[]⟩] 57 (0, 0))) := pair_below HG4.out hb5
      have HB5 := HB4.trans (hb5.mono HB4.size)
      obtain ⟨g1, g2, g3, g4, g5⟩ := pair_all HG5.out
      clear hb5 n1 n2
      go_wp2_with fail
      refine bodyPost_ret (v := .tuple #[.agg #[.string a, .string t], .int .i64 0]) (by simp [results, Tryz.results86, go_sem, g1, g2]) rfl ⟨rfl, ?_⟩
      exact (HB5.setCell (p := ⟨w.heap.size, 0, none⟩) (Nat.le_refl _) _).setCell (p := ⟨w.heap.size, 1, none⟩) (Nat.le_refl _) _
    · rw [rdF_bad _ k hi (by rw [← ha, ← hb, ← ht]; exact hc), ← ha, ← hb, ← ht] at h
      simp only [Prod.mk.injEq] at h
      obtain ⟨⟨h1, h2⟩, hcc⟩ := h
      have HCH : Hid (chk1 (a.data.toList, t.data.toList) = c) := hcc
      have hcb : (c != 0) = true := by rw [← hcc]; simpa using hc
      obtain rfl : (⟨#[]⟩ : ByteArray) = x := mk_self x [] h1.symm
      obtain rfl : (⟨#[]⟩ : ByteArray) = y := mk_self y [] h2.symm
      clear hi h1 h2 hc ha hb ht hk hcc
      go_enter Tryz.func86, Tryz.ntmps86
      go_wp2_with fail
      refine (scut_at _ _ a b true HC.out m _ HM.out (by omega)).mono ?_
      rintro e w1 ⟨rfl, nd, rfl⟩
      have HG1 : Hid (((w.alloc (.cells #[.string ⟨#[]⟩, .string ⟨#[]⟩] 57)).drewN nd).heap[w.heap.size]? = some (.cells #[.string ⟨#[]⟩, .string ⟨#[]⟩] 57 (0, 0))) := pair_below HG0.out (drewN_below _ _ _)
      have HB1 := HB0.out.trans (drewN_below w.heap.size _ nd)
      go_wp2_with fail
      refine (trim_at b t HT.out _ (by omega)).mono ?_
      rintro e w2 ⟨rfl, hb2⟩
      have HG2 : Hid (w2.heap[w.heap.size]? = some (.cells #[.string ⟨#[]⟩, .string ⟨#[]⟩] 57 (0, 0))) := pair_below HG1.out hb2
      have HB2 := HB1.trans (hb2.mono HB1.size)
      have hl2 := HB2.size
      have HG3 : Hid ((w2.alloc (.cells #[.string a, .string t] 57)).heap[w.heap.size]? = some (.cells #[.string ⟨#[]⟩, .string ⟨#[]⟩] 57 (0, 0))) := pair_below HG2.out ((Below.refl _ w2).alloc (Nat.le_refl _) _)
      have HB3 := HB2.alloc hl2 (.cells #[.string a, .string t] 57)
      clear hb2
      go_wp2_with fail
      refine (checkOne_any a t _ HA.out HTS.out).mono ?_
      rintro e w4 ⟨rfl, hb4⟩
      rw [HCH.out]
      have HG4 : Hid (w4.heap[w.heap.size]? = some (.cells #[.string ⟨#[]⟩, .string ⟨#[]⟩] 57 (0, 0))) := pair_below HG3.out hb4
      have HB4 := HB3.trans (hb4.mono HB3.size)
      obtain ⟨g1, g2, g3, g4, g5⟩ := pair_all HG4.out
      clear hb4
      go_wp2_with fail
      refine bodyPost_ret (v := .tuple #[.agg #[.string ⟨#[]⟩, .string ⟨#[]⟩], .int .i64 c]) (by simp [results, Tryz.results86, go_sem, g1, g2]) rfl ⟨rfl, ?_⟩
      exact (HB4.setCell (p := ⟨w.heap.size, 0, none⟩) (Nat.le_refl _) _).setCell (p := ⟨w.heap.size, 1, none⟩) (Nat.le_refl _) _
end Go.Proofs.YtipfjpihciiikaaGreatDoor

/-
  What Parse of package field computes; the text has less than 2^32 - 15 bytes, and the package variable that the library reads holds some number.
-/
namespace Go.Proofs.YtipfjpihciiikaaGreatDoor
open Go.RowKit

def lenV : Value → Nat
  | .string s => s.size
  | _ => 0
/-- How many bytes were read. -/
def parN (l : List UInt8) : Int := if (parS l []).2.2 = 0 then (l.length : Int) - ((parS l []).2.1.length : Int) else 0
theorem ret_three {v : Value} {a b c d : Int} (h : a = b) (h' : c = d) : Ending.returned (.tuple #[v, .int .i64 a, .int .i64 c]) = .returned (.tuple #[v, .int .i64 b, .int .i64 d]) := by rw [h, h']

set_option maxHeartbeats 8000000 in
set_option maxRecDepth 100000 in
theorem parse_any (s : ByteArray) (m : Int) (w : World) (hm : w.cell? ⟨0, 0, none⟩ = some (.int .i64 m)) (hs : s.size < 4294967281) :
    Calls Tryz.prog 50 #[.string s] w fun e w' => ∃ v, e = .returned (.tuple #[v, .int .i64 (parN s.data.toList), .int .i64 (parS s.data.toList []).2.2]) ∧
      w'.ownsRow w.heap.size 57 2 v (parS s.data.toList []).1.length (flds (parS s.data.toList []).1) ∧ Below w.heap.size w w' := by
  obtain ⟨i0, hi, hz0, hz1, hz2⟩ := info_parts infoF
  have HM : Hid (w.cell? ⟨0, 0, none⟩ = some (.int .i64 m)) := hm
  clear hm
  have hsl := size_list s
  have HSL : Hid (s.data.toList.length = s.size) := hsl
  clear hsl
  go_enter Tryz.func50, Tryz.ntmps50
  go_wp2_with fail
  go_loopw [5, 6] (fun v rv wr => ∃ (r : ByteArray) (ps : List Fld), rv = .string r ∧ parS r.data.toList ps = parS s.data.toList [] ∧ r.size ≤ s.size ∧ ps.length ≤ 30 ∧ wr.ownsRow w.heap.size 57 2 v ps.length (flds ps) ∧ Below w.heap.size w wr) (fun _ rv _ => lenV rv)
  case atStart => exact ⟨s, [], rfl, rfl, Nat.le_refl _, by simp, World.ownsRow_nil _ _ _ _, Below.refl _ _⟩
  case round =>
    obtain ⟨r, ps, rfl, hpar, hrs, hpl, hown, hw⟩ := hrel
    have HPAR : Hid (parS r.data.toList ps = parS s.data.toList []) := hpar
    clear hpar
    have hsz := hw.size
    have HMr : Hid (wr.cell? ⟨0, 0, none⟩ = some (.int .i64 m)) := cell_keep hw HM.out
    have hrl := size_list r
    obtain ⟨ad, cap, hv, hcm, hnc, hcx⟩ := own_form2 hown
    subst hv
    clear hcx
    unfold maxLen at hcm
    rcases index_two' r.data.toList [13, 10] with hix | ⟨k, hix, hk⟩
    · obtain ⟨c, hc⟩ : ∃ c : Int, c = if 1101 < r.data.toList.length then 2 else 8 := ⟨_, rfl⟩
      have HIX : Hid (Lib.index r.data.toList [13, 10] = -1) := hix
      have HC : Hid ((if 1101 < r.data.toList.length then 2 else 8 : Int) = c) := hc.symm
      have HR : Hid (parS s.data.toList [] = ([], [], c)) := by show _ = _; rw [← HPAR.out, par_none _ _ hix, hc]
      have hcb : (c != 0) = true := by rw [hc]; split <;> rfl
      have HC0 : Hid (c ≠ 0) := by show _ ≠ _; rw [hc]; split <;> decide
      clear hix hc hrl
      go_wp2_with fail
      refine (cutLine_no r 1100 (by omega) HIX.out m _ HMr.out (by omega)).mono ?_
      rintro e w1 ⟨rfl, nd, rfl⟩
      rw [HC.out]
      go_wp2_with fail
      go_ret3
      refine ⟨.slice none 0 0, ret_three ?_ (by rw [HR.out]), by rw [HR.out]; exact World.ownsRow_nil _ _ _ _, hw.trans (drewN_below _ _ _)⟩
      unfold parN; rw [HR.out, if_neg HC0.out]
    · replace hk : k + 2 ≤ r.size := by simpa using hk
      have HIX : Hid (Lib.index r.data.toList [13, 10] = k) := hix
      obtain ⟨b, hb⟩ : ∃ b : ByteArray, b.data.toList = r.data.toList.drop (k + 2) := ⟨⟨(r.data.toList.drop (k + 2)).toArray⟩, rfl⟩
      have HB : Hid (b.data.toList = r.data.toList.drop (k + 2)) := hb
      have hbs : b.size = r.size - (k + 2) := by rw [← size_list, hb, List.length_drop, hrl]
      by_cases hk0 : k = 0
      · subst hk0
        have HA : Hid ((⟨#[]⟩ : ByteArray).data.toList = r.data.toList.take 0) := by show _ = _; simp
        have HR : Hid (parS s.data.toList [] = (ps, b.data.toList, 0)) := by show _ = _; rw [← HPAR.out, par_end _ _ hix, hb]
        have HBL := size_list b
        clear hix hb hrl
        go_wp2_with fail
        refine (cutLine_yes r ⟨#[]⟩ b 1100 0 HIX.out (by omega) HA.out HB.out m _ HMr.out (by omega)).mono ?_
        rintro e w1 ⟨rfl, nd, rfl⟩
        go_wp2_with fail
        go_ret3
        refine ⟨_, ret_three ?_ (by rw [HR.out]), by rw [HR.out]; exact own_below3 hown (drewN_below _ _ _), hw.trans (drewN_below _ _ _)⟩
        unfold parN; rw [HR.out, if_pos rfl, HSL.out, HBL]; omega
      · obtain ⟨a, ha⟩ : ∃ a : ByteArray, a.data.toList = r.data.toList.take k := ⟨⟨(r.data.toList.take k).toArray⟩, rfl⟩
        have HA : Hid (a.data.toList = r.data.toList.take k) := ha
        have has : a.size = k := by rw [← size_list, ha, List.length_take, hrl]; omega
        have hem : a.toList.isEmpty = false := by
          rw [ByteArray.toList_eq, isEmpty_size, has]; simp [hk0]
        clear ha hb hrl hix
        by_cases h1 : 1100 < (a.size : Int)
        · have HR : Hid (parS s.data.toList [] = ([], [], 2)) := by show _ = _; rw [← HPAR.out]; exact par_large _ _ k HIX.out hk0 (.inl (by omega))
          have hk1 : 1100 < k := by omega
          clear has
          go_wp2_with fail
          refine (cutLine_large r 1100 k HIX.out hk1 m _ HMr.out (by omega)).mono ?_
          rintro e w1 ⟨rfl, nd, rfl⟩
          go_wp2_with fail
          go_ret3
          refine ⟨.slice none 0 0, ret_three ?_ (by rw [HR.out]), by rw [HR.out]; exact World.ownsRow_nil _ _ _ _, hw.trans (drewN_below _ _ _)⟩
          unfold parN; rw [HR.out, if_neg (by decide)]
        · have hk2 : k ≤ 1100 := by omega
          by_cases h2 : ps.length = 30
          · have HR : Hid (parS s.data.toList [] = ([], [], 2)) := by show _ = _; rw [← HPAR.out]; exact par_large _ _ k HIX.out hk0 (.inr (by omega))
            have hd2 : ((ps.length : Int) == 30) = true := by rw [h2]; rfl
            clear has h2
            go_wp2_with fail
            refine (cutLine_yes r a b 1100 k HIX.out hk2 HA.out HB.out m _ HMr.out (by omega)).mono ?_
            rintro e w1 ⟨rfl, nd, rfl⟩
            go_wp2_with fail
            go_ret3
            refine ⟨.slice none 0 0, ret_three ?_ (by rw [HR.out]), by rw [HR.out]; exact World.ownsRow_nil _ _ _ _, hw.trans (drewN_below _ _ _)⟩
            unfold parN; rw [HR.out, if_neg (by decide)]
          · have hd2 : ((ps.length : Int) == 30) = false := by rw [beq_eq_false_iff_ne]; omega
            have has2 : a.size ≤ 1100 := by omega
            have hnl : ¬ (1100 < k ∨ 30 ≤ ps.length) := by omega
            obtain ⟨x, y, c, hrd⟩ : ∃ (x y : ByteArray) (c : Int), rdF a.data.toList = ((x.data.toList, y.data.toList), c) := ⟨⟨(rdF a.data.toList).1.1.toArray⟩, ⟨(rdF a.data.toList).1.2.toArray⟩, (rdF a.data.toList).2, rfl⟩
            have HRD : Hid (rdF a.data.toList = ((x.data.toList, y.data.toList), c)) := hrd
            by_cases hc0 : c = 0
            · subst hc0
              have HR : Hid (parS b.data.toList (ps ++ [(x.data.toList, y.data.toList)]) = parS s.data.toList []) := by
                show _ = _
                rw [← HPAR.out, par_ok _ _ k HIX.out hk0 hnl (by rw [← HA.out, hrd]), ← HA.out, ← HB.out, hrd]
              have hpl2 : ps.length < 30 := by omega
              clear has hrd h2 hnl
              go_wp2_with fail
              refine (cutLine_yes r a b 1100 k HIX.out hk2 HA.out HB.out m _ HMr.out (by omega)).mono ?_
              rintro e w1 ⟨rfl, nd, rfl⟩
              have hown1 := own_below3 hown (drewN_below wr.heap.size wr nd)
              have hw1 := hw.trans (drewN_below w.heap.size wr nd)
              have HM1 : Hid ((wr.drewN nd).cell? ⟨0, 0, none⟩ = some (.int .i64 m)) := cell_keep hw1 HM.out
              clear hown
              go_wp2_with fail
              refine (readField_at a x y 0 HRD.out m _ HM1.out has2).mono ?_
              rintro e w3 ⟨rfl, hb3⟩
              have hown3 := own_below3 hown1 hb3
              have hw3 := hw1.trans (hb3.mono hw1.size)
              have hsz3 := hw3.size
              clear hown1 hb3
              go_wp2_with (at_builtin; refine wpList_append_own _ rfl _ _ 22 rfl w.heap.size 57 i0 (.agg #[.string ⟨#[]⟩, .string ⟨#[]⟩]) 2 32 Tryz.underlying22 hi hz0 hz1 hz2 rfl (by decide) _ _ _ rfl ((hown3.alloc _).alloc _) ⟨w3.heap.size + 1, 0, none⟩ 1 1 [.string x, .string y] rfl rfl ?c1 ?c2 ?c3 ?c4 ?c5 ?_)
              case c1 =>
                intro j z h
                match j, h with
                | 0, h => simp at h; subst h; simp [Addr.add]
                | 1, h => simp at h; subst h; simp [Addr.add]
              case c2 => intro z hx; simp at hx; rcases hx with rfl | rfl <;> rfl
              case c3 => unfold maxLen; omega
              case c4 => omega
              case c5 => simp; omega
              · intro v' w4 hown' hgrow _
                have hB : Below w.heap.size w w4 := ((hw3.alloc (by omega) _).alloc (by simp; omega) _).grown hgrow (by simp; omega) (fun b hb => (((hown3.alloc (.cells #[.string x, .string y] 57)).alloc (.cells #[.string x, .string y] 57)).lt b hb).1)
                have hown4 : w4.ownsRow w.heap.size 57 2 v' (ps ++ [(x.data.toList, y.data.toList)]).length (flds (ps ++ [(x.data.toList, y.data.toList)])) := by
                  rw [← flds_snoc, List.length_append]; exact hown'
                clear hown' hgrow hown3 hw3
                go_wp2_with fail
                go_roundw
                case rel => exact ⟨b, ps ++ [(x.data.toList, y.data.toList)], rfl, HR.out, by omega, by simp; omega, hown4, hB⟩
                case measure => simp [lenV]; omega
            · have hcb : (c != 0) = true := by simpa using hc0
              have HC0 : Hid (c ≠ 0) := hc0
              have HR : Hid (parS s.data.toList [] = ([], [], c)) := by
                show _ = _
                rw [← HPAR.out, par_bad _ _ k HIX.out hk0 hnl (by rw [← HA.out, hrd]; exact hc0), ← HA.out, hrd]
              clear has hrd h2 hnl hc0
              go_wp2_with fail
              refine (cutLine_yes r a b 1100 k HIX.out hk2 HA.out HB.out m _ HMr.out (by omega)).mono ?_
              rintro e w1 ⟨rfl, nd, rfl⟩
              have hw1 := hw.trans (drewN_below w.heap.size wr nd)
              have HM1 : Hid ((wr.drewN nd).cell? ⟨0, 0, none⟩ = some (.int .i64 m)) := cell_keep hw1 HM.out
              clear hown
              go_wp2_with fail
              refine (readField_at a x y c HRD.out m _ HM1.out has2).mono ?_
              rintro e w3 ⟨rfl, hb3⟩
              have hw3 := hw1.trans (hb3.mono hw1.size)
              have hsz3 := hw3.size
              clear hb3
              go_wp2_with fail
              go_ret3
              refine ⟨.slice none 0 0, ret_three ?_ (by rw [HR.out]), by rw [HR.out]; exact World.ownsRow_nil _ _ _ _, hw3.alloc hsz3 _⟩
              unfold parN; rw [HR.out, if_neg HC0.out]
end Go.Proofs.YtipfjpihciiikaaGreatDoor

/-
  What Print, Parse and Check of package field compute, each over what its plain function gives.
-/
namespace Go.Proofs.YtipfjpihciiikaaGreatDoor
open Go.RowKit

theorem print_at (t : ByteArray) (c : Int) (v : Value) (ls : List Fld) (h : prtS ls = (t.data.toList, c)) (w : World) (hf : Fl w v ls) (hm : Most maxLen ls) :
    Calls Tryz.prog 39 #[v] w fun e w' => e = .returned (.tuple #[.string t, .int .i64 c]) ∧ Below w.heap.size w w' := by
  have := print_any v ls w hf hm
  rw [h] at this
  exact this
theorem parse_at (s : ByteArray) (fs : List Fld) (rest : List UInt8) (c n : Int) (h : parS s.data.toList [] = (fs, rest, c)) (hn : parN s.data.toList = n) (m : Int) (w : World) (hm : w.cell? ⟨0, 0, none⟩ = some (.int .i64 m)) (hs : s.size < 4294967281) :
    Calls Tryz.prog 50 #[.string s] w fun e w' => ∃ v, e = .returned (.tuple #[v, .int .i64 n, .int .i64 c]) ∧
      w'.ownsRow w.heap.size 57 2 v fs.length (flds fs) ∧ Below w.heap.size w w' := by
  have := parse_any s m w hm hs
  rw [h, hn] at this
  exact this
theorem check_at (c : Int) (v : Value) (ls : List Fld) (h : chk ls = c) (w : World) (hf : Fl w v ls) (hm : Most maxLen ls) :
    Calls Tryz.prog 73 #[v] w fun e w' => e = .returned (.int .i64 c) ∧ Below w.heap.size w w' := by
  rw [← h]; exact check_any v ls w hf hm
/-- A list of one field without name and value, just made. -/
theorem Fl.zero (w : World) (t : TypeId) : Fl (w.alloc (.cells #[.string ⟨#[]⟩, .string ⟨#[]⟩] t)) (.slice (some ⟨w.heap.size, 0, none⟩) 1 1) [([], [])] := by
  refine ⟨some ⟨w.heap.size, 0, none⟩, 1, rfl, Nat.le_refl _, by unfold maxLen; omega, fun _ => ⟨w.heap.size, 0, rfl, by simp, fun k hk => ?_⟩⟩
  obtain rfl : k = 0 := by simpa using hk
  exact ⟨by simp, by simp⟩
theorem Most.zero : Most maxLen [([], [])] := by
  intro x hx
  rw [List.mem_singleton.1 hx]
  exact ⟨Nat.zero_le _, Nat.zero_le _⟩
theorem chk_zero1 : chk [([], [])] = 3 := rfl
end Go.Proofs.YtipfjpihciiikaaGreatDoor

/-
  New blocks lie above all that was there; no program is named here.
-/
namespace Go.Proofs.YtipfjpihciiikaaGreatDoor
open Go.RowKit

theorem below_alloc (w : World) (o : Obj) : Below w.heap.size w (w.alloc o) := (Below.refl _ w).alloc (Nat.le_refl _) o
theorem below_alloc2 (w : World) (o o' : Obj) : Below w.heap.size w ((w.alloc o).alloc o') := (below_alloc w o).alloc (by simp) o'
theorem below_new {w w1 : World} {o : Obj} (h : Below (w.alloc o).heap.size (w.alloc o) w1) : Below w.heap.size w w1 := (below_alloc w o).trans (h.mono (by simp))
theorem below_new2 {w w1 : World} {o o' : Obj} (h : Below ((w.alloc o).alloc o').heap.size ((w.alloc o).alloc o') w1) : Below w.heap.size w w1 := (below_alloc2 w o o').trans (h.mono (by simp; omega))
theorem new_cell {w w1 : World} {cs : Array Value} {t : TypeId} (h : Below (w.alloc (.cells cs t)).heap.size (w.alloc (.cells cs t)) w1) (j : Nat) : w1.cell? ⟨w.heap.size, j, none⟩ = cs[j]? :=
  (h.cell (p := ⟨w.heap.size, j, none⟩) (by simp)).trans (by simp)
theorem new_cell2 {w w1 : World} {cs ds : Array Value} {t u : TypeId} (h : Below ((w.alloc (.cells cs t)).alloc (.cells ds u)).heap.size ((w.alloc (.cells cs t)).alloc (.cells ds u)) w1) (j : Nat) : w1.cell? ⟨w.heap.size, j, none⟩ = cs[j]? ∧ w1.cell? ⟨w.heap.size + 1, j, none⟩ = ds[j]? :=
  ⟨(h.cell (p := ⟨w.heap.size, j, none⟩) (by simp; omega)).trans (by simp), (h.cell (p := ⟨w.heap.size + 1, j, none⟩) (by simp)).trans (by simp)⟩
/-- A block of four cells, all of them written anew. -/
def set4 (w : World) (g : Nat) (a b c d : Value) : World := (((w.setCell ⟨g, 0, none⟩ a).setCell ⟨g, 1, none⟩ b).setCell ⟨g, 2, none⟩ c).setCell ⟨g, 3, none⟩ d
theorem set4_own {w : World} {g : Nat} {t : TypeId} {p q r s a b c d : Value} (h : w.heap[g]? = some (.cells #[p, q, r, s] t (0, 0))) : (set4 w g a b c d).heap[g]? = some (.cells #[a, b, c, d] t (0, 0)) := by
  unfold set4
  have h1 := heap_setCell_same w g 0 _ t a h
  have h2 := heap_setCell_same _ g 1 _ t b h1
  have h3 := heap_setCell_same _ g 2 _ t c h2
  exact heap_setCell_same _ g 3 _ t d h3
theorem set4_other {w : World} {g k : Nat} {a b c d : Value} (h : k ≠ g) : (set4 w g a b c d).heap[k]? = w.heap[k]? := by
  unfold set4
  rw [heap_setCell_other _ _ _ _ h, heap_setCell_other _ _ _ _ h, heap_setCell_other _ _ _ _ h, heap_setCell_other _ _ _ _ h]
theorem set4_below {B : Nat} {w0 w : World} {g : Nat} (a b c d : Value) (hb : Below B w0 w) (hg : B ≤ g) : Below B w0 (set4 w g a b c d) := (((hb.setCell hg a).setCell hg b).setCell hg c).setCell hg d
theorem set4_cell {w : World} {g : Nat} {t : TypeId} {p q r s a b c d : Value} (h : w.heap[g]? = some (.cells #[p, q, r, s] t (0, 0))) (j : Nat) : (set4 w g a b c d).cell? ⟨g, j, none⟩ = #[a, b, c, d][j]? := by
  simp [World.cell?, set4_own h]
end Go.Proofs.YtipfjpihciiikaaGreatDoor

/-
  What writeBody and writeRest of package msg compute; the listed variables that the library reads hold what their text lays.
-/
namespace Go.Proofs.YtipfjpihciiikaaGreatDoor
open Go.RowKit

set_option maxHeartbeats 1000000 in
set_option maxRecDepth 100000 in
theorem wbody_at (k n : Int) (hk : k = 1 ∨ k = 2 ∨ k = 3 ∨ k = 4) (b t : ByteArray) (c : Int) (h : wbS k n b.data.toList = (t.data.toList, c)) (w : World) (hT : HTab w) :
    Calls Tryz.prog 40 #[.int .i64 k, .int .i64 n, .string b] w fun e w' => e = .returned (.tuple #[.string t, .int .i64 c]) ∧ Below w.heap.size w w' := by
  have HT : Hid (HTab w) := hT
  clear hT
  have same : ∀ k : Int, k ≠ 3 → k ≠ 4 → (b.size : Int) = n → wbS k n b.data.toList = (b.data.toList, 0) := by
    intro k h3 h4 hn
    unfold wbS
    rw [if_neg h3, if_neg (fun x => h4 x.1), if_neg (fun x => x.2 (by rw [size_list]; exact hn))]
  have diff : ∀ k : Int, k ≠ 3 → k ≠ 4 → (b.size : Int) ≠ n → wbS k n b.data.toList = ([], 10) := by
    intro k h3 h4 hn
    unfold wbS
    rw [if_neg h3, if_neg (fun x => h4 x.1), if_pos ⟨h4, by rw [size_list]; exact hn⟩]
  have emp : ∀ x : Int, ([], x) = (t.data.toList, c) → t = ⟨#[]⟩ ∧ c = x := by
    intro x hx
    simp only [Prod.mk.injEq] at hx
    exact ⟨by apply ByteArray.ext; apply Array.ext'; exact hx.1.symm, hx.2.symm⟩
  have full : (b.data.toList, (0 : Int)) = (t.data.toList, c) → t = b ∧ c = 0 := by
    intro hx
    simp only [Prod.mk.injEq] at hx
    exact ⟨by apply ByteArray.ext; apply Array.ext'; exact hx.1.symm, hx.2.symm⟩
  rcases hk with rfl | rfl | rfl | rfl
  · by_cases hn : (b.size : Int) = n
    · rw [same 1 (by decide) (by decide) hn] at h
      obtain ⟨rfl, rfl⟩ := full h
      have hb : ((t.size : Int) != n) = false := by rw [hn]; simp
      clear same diff emp full h hn
      go_enter Tryz.func40, Tryz.ntmps40
      go_wp2_with fail
      go_ret2
      exact ⟨rfl, Below.refl _ _⟩
    · rw [diff 1 (by decide) (by decide) hn] at h
      obtain ⟨rfl, rfl⟩ := emp _ h
      have hb : ((b.size : Int) != n) = true := by simpa using hn
      clear same diff emp full h hn
      go_enter Tryz.func40, Tryz.ntmps40
      go_wp2_with fail
      go_ret2
      exact ⟨rfl, Below.refl _ _⟩
  · by_cases hn : (b.size : Int) = n
    · rw [same 2 (by decide) (by decide) hn] at h
      obtain ⟨rfl, rfl⟩ := full h
      have hb : ((t.size : Int) != n) = false := by rw [hn]; simp
      clear same diff emp full h hn
      go_enter Tryz.func40, Tryz.ntmps40
      go_wp2_with fail
      go_ret2
      exact ⟨rfl, Below.refl _ _⟩
    · rw [diff 2 (by decide) (by decide) hn] at h
      obtain ⟨rfl, rfl⟩ := emp _ h
      have hb : ((b.size : Int) != n) = true := by simpa using hn
      clear same diff emp full h hn
      go_enter Tryz.func40, Tryz.ntmps40
      go_wp2_with fail
      go_ret2
      exact ⟨rfl, Below.refl _ _⟩
  · have HE : Hid (encE b.data.toList 64 = (t.data.toList, c)) := h
    clear same diff emp full h
    go_enter Tryz.func40, Tryz.ntmps40
    go_wp2_with fail
    refine (encode_at b t 64 c HE.out (by decide) _ HT.out).mono ?_
    rintro e w1 ⟨rfl, hb1⟩
    go_wp2_with fail
    go_ret2
    exact ⟨rfl, hb1⟩
  · by_cases hl : 5000 < b.size
    · have h' : (([], 2) : List UInt8 × Int) = (t.data.toList, c) := by
        rw [← h]; unfold wbS; rw [if_neg (by decide), if_pos ⟨rfl, by rw [size_list]; exact hl⟩]
      obtain ⟨rfl, rfl⟩ := emp _ h'
      have hb : (5000 : Int) < (b.size : Int) := by omega
      clear same diff emp full h h' hl
      go_enter Tryz.func40, Tryz.ntmps40
      go_wp2_with fail
      go_ret2
      exact ⟨rfl, Below.refl _ _⟩
    · have h' : (b.data.toList, (0 : Int)) = (t.data.toList, c) := by
        rw [← h]; unfold wbS; rw [if_neg (by decide), if_neg (fun x => hl (by have := x.2; rw [size_list] at this; exact this)), if_neg (fun x => x.1 rfl)]
      obtain ⟨rfl, rfl⟩ := full h'
      have hb : ¬ (5000 : Int) < (t.size : Int) := by omega
      clear same diff emp full h h' hl
      go_enter Tryz.func40, Tryz.ntmps40
      go_wp2_with fail
      go_ret2
      exact ⟨rfl, Below.refl _ _⟩
set_option maxHeartbeats 2000000 in
set_option maxRecDepth 100000 in
theorem wrest_at (req : Bool) (m : ByteArray) (code : Int) (v : Value) (ls : List Fld) (b t : ByteArray) (c : Int) (h : wrB (kd req m.data.toList code) ls b.data.toList = (t.data.toList, c)) (w : World) (hf : Fl w v ls) (hm : Most maxLen ls) (hS : STabs w) (hT : HTab w) :
    Calls Tryz.prog 21 #[.agg #[.bool req, .string m, .int .i64 code], v, .string b] w fun e w' => e = .returned (.tuple #[.string t, .int .i64 c]) ∧ Below w.heap.size w w' := by
  have HF : Hid (Fl w v ls) := hf
  have HM : Hid (Most maxLen ls) := hm
  have HS : Hid (STabs w) := hS
  have HT : Hid (HTab w) := hT
  clear hf hm hS hT
  obtain ⟨p, d, hp⟩ : ∃ (p : ByteArray) (d : Int), prtS ls = (p.data.toList, d) := ⟨⟨(prtS ls).1.toArray⟩, (prtS ls).2, rfl⟩
  have HP : Hid (prtS ls = (p.data.toList, d)) := hp
  have emp : ∀ x : Int, ([], x) = (t.data.toList, c) → t = ⟨#[]⟩ ∧ c = x := by
    intro x hx
    simp only [Prod.mk.injEq] at hx
    exact ⟨by apply ByteArray.ext; apply Array.ext'; exact hx.1.symm, hx.2.symm⟩
  by_cases hc : chk ls = 0
  · rw [prtS_ok ls hc, Prod.mk.injEq] at hp
    obtain ⟨hpl, rfl⟩ := hp
    have HB : Hid (bulkF ls ≤ 1048576) := bulk_chk ls hc
    obtain ⟨x, y, z, hk⟩ : ∃ x y z, kd req m.data.toList code ls = (x, y, z) := ⟨_, _, _, rfl⟩
    have HK : Hid (kd req m.data.toList code ls = (x, y, z)) := hk
    by_cases hz : z = 0
    · subst hz
      have hsh : x = 1 ∨ x = 2 ∨ x = 3 ∨ x = 4 := by
        rcases kd_ok req m.data.toList code ls with ⟨e, h1, h2⟩ | h1 | h1 | h1 | ⟨n, h1, _⟩
        · rw [hk] at h1; simp only [Prod.mk.injEq] at h1; exact absurd h1.2.2.symm h2
        · rw [hk] at h1; simp only [Prod.mk.injEq] at h1; exact .inl h1.1
        · rw [hk] at h1; simp only [Prod.mk.injEq] at h1; exact .inr (.inr (.inl h1.1))
        · rw [hk] at h1; simp only [Prod.mk.injEq] at h1; exact .inr (.inr (.inr h1.1))
        · rw [hk] at h1; simp only [Prod.mk.injEq] at h1; exact .inr (.inl h1.1)
      have hw := wrB_wb (kd_ok req m.data.toList code) b.data.toList hc (by rw [hk])
      rw [h, hk] at hw
      simp only at hw
      obtain ⟨u, f, hu⟩ : ∃ (u : ByteArray) (f : Int), wbS x y b.data.toList = (u.data.toList, f) := ⟨⟨(wbS x y b.data.toList).1.toArray⟩, _, rfl⟩
      rw [hu] at hw
      have HU : Hid (wbS x y b.data.toList = (u.data.toList, f)) := hu
      have HSH : Hid (x = 1 ∨ x = 2 ∨ x = 3 ∨ x = 4) := hsh
      by_cases hf0 : f = 0
      · subst hf0
        rw [if_neg (by simp), Prod.mk.injEq] at hw
        obtain ⟨hw1, rfl⟩ := hw
        have ht : t = p ++ u := by
          apply ByteArray.ext; apply Array.ext'
          rw [ByteArray.data_append, Array.toList_append, ← hpl]
          exact hw1
        have HTT : Hid (t = p ++ u) := ht
        have hps : p.size ≤ 31022 := by
          rw [← size_list, ← hpl, List.length_append]
          have := prt_take_len ls hc ls.length
          rw [List.take_length] at this
          simp; omega
        have hus : u.size ≤ 45005 := by
          have h1 := wb_len (kd_ok req m.data.toList code) (b := b.data.toList) (ls := ls) (by rw [hk]) (by rw [hk]; simp only; rw [hu])
          rw [hk] at h1
          simp only at h1
          rw [hu, size_list] at h1
          exact h1
        clear h hc hk hsh hu emp hw1 ht hpl
        go_enter Tryz.func21, Tryz.ntmps21
        go_wp2_with fail
        refine (print_at p 0 v ls HP.out _ (HF.out.below (below_alloc _ _)) HM.out).mono ?_
        rintro e w1 ⟨rfl, hb0⟩
        have c0 : w1.cell? ⟨w.heap.size, 0, none⟩ = some (.bool req) := new_cell hb0 0
        have c1 : w1.cell? ⟨w.heap.size, 1, none⟩ = some (.string m) := new_cell hb0 1
        have c2 : w1.cell? ⟨w.heap.size, 2, none⟩ = some (.int .i64 code) := new_cell hb0 2
        have hb1 := below_new hb0
        clear hb0
        go_wp2_with fail
        refine (kindU_at req m code v ls x y 0 HK.out _ (HF.out.below hb1) HB.out (HS.out.below hb1)).mono ?_
        rintro e w2 ⟨rfl, hb2⟩
        have hw2 := hb1.trans (hb2.mono hb1.size)
        clear hb1 hb2
        go_wp2_with fail
        refine (wbody_at x y HSH.out b u 0 HU.out _ (HT.out.below hw2)).mono ?_
        rintro e w3 ⟨rfl, hb3⟩
        have hw3 := hw2.trans (hb3.mono hw2.size)
        clear hw2 hb3
        go_wp2_with fail
        go_ret2
        exact ⟨ret_se HTT.out.symm rfl, hw3⟩
      · rw [if_pos hf0] at hw
        obtain ⟨rfl, rfl⟩ := emp _ hw.symm
        have hfb : (c != 0) = true := by simpa using hf0
        clear h hc hk hsh hu emp hw hpl hf0
        go_enter Tryz.func21, Tryz.ntmps21
        go_wp2_with fail
        refine (print_at p 0 v ls HP.out _ (HF.out.below (below_alloc _ _)) HM.out).mono ?_
        rintro e w1 ⟨rfl, hb0⟩
        have c0 : w1.cell? ⟨w.heap.size, 0, none⟩ = some (.bool req) := new_cell hb0 0
        have c1 : w1.cell? ⟨w.heap.size, 1, none⟩ = some (.string m) := new_cell hb0 1
        have c2 : w1.cell? ⟨w.heap.size, 2, none⟩ = some (.int .i64 code) := new_cell hb0 2
        have hb1 := below_new hb0
        clear hb0
        go_wp2_with fail
        refine (kindU_at req m code v ls x y 0 HK.out _ (HF.out.below hb1) HB.out (HS.out.below hb1)).mono ?_
        rintro e w2 ⟨rfl, hb2⟩
        have hw2 := hb1.trans (hb2.mono hb1.size)
        clear hb1 hb2
        go_wp2_with fail
        refine (wbody_at x y HSH.out b u c HU.out _ (HT.out.below hw2)).mono ?_
        rintro e w3 ⟨rfl, hb3⟩
        have hw3 := hw2.trans (hb3.mono hw2.size)
        clear hw2 hb3
        go_wp2_with fail
        go_ret2
        exact ⟨rfl, hw3⟩
    · have hw := wrB_err (K := kd req m.data.toList code) b.data.toList hc (by rw [hk]; exact hz)
      rw [h, hk] at hw
      obtain ⟨rfl, rfl⟩ := emp _ hw.symm
      have hzb : (c != 0) = true := by simpa using hz
      clear h hc hk emp hw hpl hz
      go_enter Tryz.func21, Tryz.ntmps21
      go_wp2_with fail
      refine (print_at p 0 v ls HP.out _ (HF.out.below (below_alloc _ _)) HM.out).mono ?_
      rintro e w1 ⟨rfl, hb0⟩
      have c0 : w1.cell? ⟨w.heap.size, 0, none⟩ = some (.bool req) := new_cell hb0 0
      have c1 : w1.cell? ⟨w.heap.size, 1, none⟩ = some (.string m) := new_cell hb0 1
      have c2 : w1.cell? ⟨w.heap.size, 2, none⟩ = some (.int .i64 code) := new_cell hb0 2
      have hb1 := below_new hb0
      clear hb0
      go_wp2_with fail
      refine (kindU_at req m code v ls x y c HK.out _ (HF.out.below hb1) HB.out (HS.out.below hb1)).mono ?_
      rintro e w2 ⟨rfl, hb2⟩
      have hw2 := hb1.trans (hb2.mono hb1.size)
      clear hb1 hb2
      go_wp2_with fail
      go_ret2
      exact ⟨rfl, hw2⟩
  · have hw := wrB_bad (K := kd req m.data.toList code) b.data.toList hc
    rw [h] at hw
    obtain ⟨rfl, rfl⟩ := emp _ hw.symm
    rw [prtS_bad ls hc, Prod.mk.injEq] at hp
    obtain ⟨hp1, rfl⟩ := hp
    have hcb : (chk ls != 0) = true := by simpa using hc
    obtain ⟨q, hq⟩ : ∃ q, q = chk ls := ⟨_, rfl⟩
    rw [← hq] at hcb HP ⊢
    clear h hc emp hw hp1 hq
    go_enter Tryz.func21, Tryz.ntmps21
    go_wp2_with fail
    refine (print_at p q v ls HP.out _ (HF.out.below (below_alloc _ _)) HM.out).mono ?_
    rintro e w1 ⟨rfl, hb0⟩
    have c0 : w1.cell? ⟨w.heap.size, 0, none⟩ = some (.bool req) := new_cell hb0 0
    have c1 : w1.cell? ⟨w.heap.size, 1, none⟩ = some (.string m) := new_cell hb0 1
    have c2 : w1.cell? ⟨w.heap.size, 2, none⟩ = some (.int .i64 code) := new_cell hb0 2
    have hb1 := below_new hb0
    clear hb0
    go_wp2_with fail
    go_ret2
    exact ⟨rfl, hb1⟩
end Go.Proofs.YtipfjpihciiikaaGreatDoor

/-
  What isMethod, isTarget, PrintRequest, readRequest and ParseRequest of package line compute; a text that is parsed has less than 2^32 - 15 bytes (or its line ends early), and the package variable that the library reads holds some number.
-/
namespace Go.Proofs.YtipfjpihciiikaaGreatDoor
open Go.RowKit

set_option maxRecDepth 100000 in
theorem isMethod_any (s : ByteArray) (w : World) (hs : s.size ≤ maxLen) :
    Calls Tryz.prog 37 #[.string s] w fun e w' => e = .returned (.bool (meth s.data.toList)) ∧ w' = w := by
  have HS : Hid (s.size ≤ maxLen) := hs
  clear hs
  cases ht : token s.data.toList
  · have HT : Hid (token s.data.toList = false) := ht
    clear ht
    go_enter Tryz.func37, Tryz.ntmps37
    go_wp2_with fail
    refine (isToken_any _ _ HS.out).mono ?_
    rintro e w' ⟨rfl, rfl⟩
    rw [HT.out]
    go_wp2_with fail
    go_ret
    refine ⟨ret_bool ?_, rfl⟩
    unfold meth; rw [HT.out, Bool.false_and]
  · have HT : Hid (token s.data.toList = true) := ht
    clear ht
    go_enter Tryz.func37, Tryz.ntmps37
    go_wp2_with fail
    refine (isToken_any _ _ HS.out).mono ?_
    rintro e w' ⟨rfl, rfl⟩
    rw [HT.out]
    go_wp2_with fail
    go_ret
    refine ⟨ret_bool ?_, rfl⟩
    unfold meth; rw [HT.out, Bool.true_and, size_list, decide_eq_decide]; omega

theorem isTgt_yes (c : UInt8) (h1 : 33 ≤ (c.toNat : Int)) (h2 : (c.toNat : Int) ≤ 126) : isTgt c = true := by
  unfold isTgt; simp [UInt8.le_iff_toNat_le]; omega
theorem isTgt_no (c : UInt8) (h : (c.toNat : Int) < 33 ∨ 126 < (c.toNat : Int)) : isTgt c = false := by
  unfold isTgt; rw [Bool.eq_false_iff]; simp [UInt8.le_iff_toNat_le]; omega

set_option maxHeartbeats 400000 in
set_option maxRecDepth 100000 in
theorem isTarget_any (s : ByteArray) (w : World) (hs : s.size ≤ maxLen) :
    Calls Tryz.prog 38 #[.string s] w fun e w' => e = .returned (.bool (targ s.data.toList)) ∧ w' = w := by
  unfold maxLen at hs
  go_enter Tryz.func38, Tryz.ntmps38
  go_wp2_with fail
  go_loop [6] (fun i => ∃ k : Nat, k ≤ s.size ∧ i = .int .i64 k ∧ (s.data.toList.take k).all isTgt = true) (fun i => s.size - (intOf i).toNat)
  case atStart => exact ⟨0, Nat.zero_le _, rfl, rfl⟩
  case round =>
    obtain ⟨k, hk, rfl, hall⟩ := hrel
    have HA : Hid ((s.data.toList.take k).all isTgt = true) := hall
    clear hall
    by_cases hlt : k < s.size
    · rcases (show (s[k].toNat : Int) < 33 ∨ (33 ≤ (s[k].toNat : Int) ∧ (s[k].toNat : Int) ≤ 126) ∨ 126 < (s[k].toNat : Int) from by omega) with h | ⟨h, h'⟩ | h
      · have HT : Hid (isTgt s[k] = false) := isTgt_no _ (.inl h)
        go_wp2_with fail
        go_ret
        refine ⟨ret_bool ?_, rfl⟩
        rw [targ, all_false s isTgt k hlt HT.out, Bool.false_and]
      · have HT : Hid (isTgt s[k] = true) := isTgt_yes _ h h'
        go_wp2_with fail
        go_round
        case rel => exact ⟨k + 1, by omega, by go_num, by rw [take_snoc s k hlt, List.all_append, HA.out]; simp [HT.out]⟩
        case measure => simp [intOf]; omega
      · have HT : Hid (isTgt s[k] = false) := isTgt_no _ (.inr h)
        have h' : ¬ (s[k].toNat : Int) < 33 := by omega
        go_wp2_with fail
        go_ret
        refine ⟨ret_bool ?_, rfl⟩
        rw [targ, all_false s isTgt k hlt HT.out, Bool.false_and]
    · obtain rfl : k = s.size := by omega
      have h := HA.out
      rw [take_all] at h
      have HB : Hid (s.data.toList.all isTgt = true) := h
      clear h
      cases hem : s.toList.isEmpty
      · have HE : Hid (s.data.toList.isEmpty = false) := by rw [ByteArray.toList_eq] at hem; exact hem
        go_wp2_with fail
        go_ret
        refine ⟨ret_bool ?_, rfl⟩
        rw [targ, HB.out, HE.out, Bool.true_and, size_list, Bool.not_false, Bool.true_and, decide_eq_decide]; omega
      · have HE : Hid (s.data.toList.isEmpty = true) := by rw [ByteArray.toList_eq] at hem; exact hem
        go_wp2_with fail
        go_ret
        refine ⟨ret_bool ?_, rfl⟩
        rw [targ, HB.out, HE.out]; rfl

theorem ret_sv {a b : ByteArray} {v : Value} (h : a = b) : Ending.returned (.tuple #[.string a, v]) = .returned (.tuple #[.string b, v]) := by rw [h]

set_option maxHeartbeats 1000000 in
set_option maxRecDepth 100000 in
theorem printR_at (m t x : ByteArray) (c : Int) (h : prR m.data.toList t.data.toList = (x.data.toList, c)) (w : World) (hm : m.size ≤ maxLen) (ht : t.size ≤ maxLen) :
    Calls Tryz.prog 20 #[.string m, .string t] w fun e w' => e = .returned (.tuple #[.string x, .int .i64 c]) ∧ w' = w := by
  have HS : Hid (m.size ≤ maxLen) := hm
  have HT : Hid (t.size ≤ maxLen) := ht
  clear hm ht
  cases h1 : meth m.data.toList
  · rw [prR_no _ _ (by rw [h1]; rfl)] at h
    simp only [Prod.mk.injEq] at h
    obtain ⟨h2, rfl⟩ := h
    obtain rfl : (⟨#[]⟩ : ByteArray) = x := mk_self x [] h2.symm
    have H1 : Hid (meth m.data.toList = false) := h1
    clear h1 h2
    go_enter Tryz.func20, Tryz.ntmps20
    go_wp2_with fail
    refine (isMethod_any _ _ HS.out).mono ?_
    rintro e w' ⟨rfl, rfl⟩
    rw [H1.out]
    go_wp2_with fail
    go_ret2
    exact ⟨rfl, rfl⟩
  · have H1 : Hid (meth m.data.toList = true) := h1
    have hms : m.size ≤ 30 := by rw [← size_list]; exact (meth_is _ h1).2
    cases h2 : targ t.data.toList
    · rw [prR_no _ _ (by rw [h1, h2]; rfl)] at h
      simp only [Prod.mk.injEq] at h
      obtain ⟨h3, rfl⟩ := h
      obtain rfl : (⟨#[]⟩ : ByteArray) = x := mk_self x [] h3.symm
      have H2 : Hid (targ t.data.toList = false) := h2
      clear h1 h2 h3
      go_enter Tryz.func20, Tryz.ntmps20
      go_wp2_with fail
      refine (isMethod_any _ _ HS.out).mono ?_
      rintro e w' ⟨rfl, rfl⟩
      rw [H1.out]
      go_wp2_with fail
      refine (isTarget_any _ _ HT.out).mono ?_
      rintro e w' ⟨rfl, rfl⟩
      rw [H2.out]
      go_wp2_with fail
      go_ret2
      exact ⟨rfl, rfl⟩
    · have H2 : Hid (targ t.data.toList = true) := h2
      have hts : t.size ≤ 200 := by rw [← size_list]; exact (targ_is _ h2).2.2
      rw [prR_ok _ _ h1 h2] at h
      simp only [Prod.mk.injEq] at h
      obtain ⟨h3, rfl⟩ := h
      have HX : Hid (reqB m.data.toList t.data.toList ++ [13, 10] = x.data.toList) := h3
      clear h1 h2 h3
      go_enter Tryz.func20, Tryz.ntmps20
      go_wp2_with fail
      refine (isMethod_any _ _ HS.out).mono ?_
      rintro e w' ⟨rfl, rfl⟩
      rw [H1.out]
      go_wp2_with fail
      refine (isTarget_any _ _ HT.out).mono ?_
      rintro e w' ⟨rfl, rfl⟩
      rw [H2.out]
      go_wp2_with fail
      go_ret2
      refine ⟨ret_sv ?_, rfl⟩
      apply ByteArray.ext; apply Array.ext'
      rw [← HX.out]
      simp [reqB, verB]
end Go.Proofs.YtipfjpihciiikaaGreatDoor

/-
  What WriteRequest of package msg computes; the listed variables that the library reads hold what their text lays.
-/
namespace Go.Proofs.YtipfjpihciiikaaGreatDoor
open Go.RowKit

abbrev KQ (m : List UInt8) : Kd := kd true m 0
def reqV (m t : ByteArray) (v : Value) (b : ByteArray) : Value := .agg #[.string m, .string t, v, .string b]
set_option maxHeartbeats 2000000 in
set_option maxRecDepth 100000 in
theorem writeQ_at (m t : ByteArray) (v : Value) (ls : List Fld) (b x : ByteArray) (c : Int) (h : wrQ (KQ m.data.toList) m.data.toList t.data.toList ls b.data.toList = (x.data.toList, c)) (w : World) (hf : Fl w v ls) (hm : Most maxLen ls) (hS : STabs w) (hT : HTab w) (z1 : m.size ≤ maxLen) (z2 : t.size ≤ maxLen) :
    Calls Tryz.prog 9 #[.agg #[.string m, .string t, v, .string b]] w fun e w' => e = .returned (.tuple #[.string x, .int .i64 c]) ∧ Below w.heap.size w w' := by
  have HF : Hid (Fl w v ls) := hf
  have HM : Hid (Most maxLen ls) := hm
  have HS : Hid (STabs w) := hS
  have HT : Hid (HTab w) := hT
  have H1 : Hid (m.size ≤ maxLen) := z1
  have H2 : Hid (t.size ≤ maxLen) := z2
  clear hf hm hS hT z1 z2
  obtain ⟨p, d, hp⟩ : ∃ (p : ByteArray) (d : Int), prR m.data.toList t.data.toList = (p.data.toList, d) := ⟨⟨(prR m.data.toList t.data.toList).1.toArray⟩, _, rfl⟩
  have HP : Hid (prR m.data.toList t.data.toList = (p.data.toList, d)) := hp
  obtain ⟨u, f, hu⟩ : ∃ (u : ByteArray) (f : Int), wrB (KQ m.data.toList) ls b.data.toList = (u.data.toList, f) := ⟨⟨(wrB (KQ m.data.toList) ls b.data.toList).1.toArray⟩, _, rfl⟩
  have HU : Hid (wrB (KQ m.data.toList) ls b.data.toList = (u.data.toList, f)) := hu
  have emp : ∀ y : Int, ([], y) = (x.data.toList, c) → x = ⟨#[]⟩ ∧ c = y := by
    intro y hx
    simp only [Prod.mk.injEq] at hx
    exact ⟨by apply ByteArray.ext; apply Array.ext'; exact hx.1.symm, hx.2.symm⟩
  unfold wrQ at h
  rw [hp, hu] at h
  simp only at h
  by_cases hd : d = 0
  · subst hd
    rw [if_neg (by simp)] at h
    by_cases hf0 : f = 0
    · subst hf0
      rw [if_neg (by simp), Prod.mk.injEq] at h
      obtain ⟨hx, rfl⟩ := h
      have HX : Hid (p ++ u = x) := by
        show _ = _
        apply ByteArray.ext; apply Array.ext'
        rw [ByteArray.data_append, Array.toList_append]
        exact hx
      have hus : u.size ≤ 76027 := by rw [← size_list]; exact wrB_len (kd_ok true m.data.toList 0) hu
      have hps : p.size ≤ 242 := by
        cases hok : meth m.data.toList && targ t.data.toList
        · rw [prR_no _ _ hok] at hp; simp at hp
        · rw [Bool.and_eq_true] at hok
          rw [prR_ok _ _ hok.1 hok.2, Prod.mk.injEq] at hp
          rw [← size_list, ← hp.1, List.length_append]
          have := (reqB_le _ _ hok.1 hok.2).1
          simp; omega
      clear hp hu emp hx
      go_enter Tryz.func9, Tryz.ntmps9
      go_wp2_with fail
      refine (printR_at m t p 0 HP.out _ H1.out H2.out).mono ?_
      rintro e w1 ⟨rfl, rfl⟩
      go_wp2_with fail
      refine (wrest_at true m 0 v ls b u 0 HU.out _ (HF.out.below (below_alloc _ _)) HM.out (HS.out.below (below_alloc _ _)) (HT.out.below (below_alloc _ _))).mono ?_
      rintro e w2 ⟨rfl, hb0⟩
      have hb2 := below_new hb0
      clear hb0
      go_wp2_with fail
      go_ret2
      exact ⟨ret_se HX.out rfl, hb2⟩
    · rw [if_pos hf0] at h
      obtain ⟨rfl, rfl⟩ := emp _ h
      have hfb : (c != 0) = true := by simpa using hf0
      clear hp hu emp h hf0
      go_enter Tryz.func9, Tryz.ntmps9
      go_wp2_with fail
      refine (printR_at m t p 0 HP.out _ H1.out H2.out).mono ?_
      rintro e w1 ⟨rfl, rfl⟩
      go_wp2_with fail
      refine (wrest_at true m 0 v ls b u c HU.out _ (HF.out.below (below_alloc _ _)) HM.out (HS.out.below (below_alloc _ _)) (HT.out.below (below_alloc _ _))).mono ?_
      rintro e w2 ⟨rfl, hb0⟩
      have hb2 := below_new hb0
      clear hb0
      go_wp2_with fail
      go_ret2
      exact ⟨rfl, hb2⟩
  · rw [if_pos hd] at h
    obtain ⟨rfl, rfl⟩ := emp _ h
    have hdb : (c != 0) = true := by simpa using hd
    clear hp hu HU emp h hd
    go_enter Tryz.func9, Tryz.ntmps9
    go_wp2_with fail
    refine (printR_at m t p c HP.out _ H1.out H2.out).mono ?_
    rintro e w1 ⟨rfl, rfl⟩
    go_wp2_with fail
    go_ret2
    exact ⟨rfl, below_alloc _ _⟩
end Go.Proofs.YtipfjpihciiikaaGreatDoor

/-
  What allOf of the document's answers computes; no condition but that a string is no longer than Go allows.
-/
namespace Go.Proofs.YtipfjpihciiikaaGreatDoor
open Go.RowKit

set_option maxHeartbeats 400000 in
set_option maxRecDepth 100000 in
theorem allOf_any (s f : ByteArray) (w : World) (hs : s.size ≤ maxLen) :
    Calls Tryz.prog 76 #[.string s, .string f] w fun e w' => e = .returned (.bool (allIn f.data.toList s.data.toList)) ∧ w' = w := by
  unfold maxLen at hs
  go_enter Tryz.func76, Tryz.ntmps76
  go_wp2_with fail
  go_loop [8] (fun i => ∃ k : Nat, k ≤ s.size ∧ i = .int .i64 k ∧ allIn f.data.toList (s.data.toList.take k) = true) (fun i => s.size - (intOf i).toNat)
  case atStart => exact ⟨0, Nat.zero_le _, rfl, rfl⟩
  case round =>
    obtain ⟨k, hk, rfl, hall⟩ := hrel
    have HA : Hid (allIn f.data.toList (s.data.toList.take k) = true) := hall
    clear hall
    by_cases hlt : k < s.size
    · cases ht : f.data.toList.contains s[k]
      · have HT : Hid (f.data.toList.contains s[k] = false) := ht
        clear ht
        go_wp2_with fail
        rw [extract_one s k hlt]
        refine (Tryz.strings_Contains_one _ _ _).mono ?_
        rintro e w' ⟨rfl, rfl⟩
        rw [← Lib.contains_iff_indexByte, HT.out]
        go_wp2_with fail
        go_ret
        refine ⟨ret_bool ?_, rfl⟩
        rw [allIn, all_false s (fun c => f.data.toList.contains c) k hlt HT.out]
      · have HT : Hid (f.data.toList.contains s[k] = true) := ht
        clear ht
        go_wp2_with fail
        rw [extract_one s k hlt]
        refine (Tryz.strings_Contains_one _ _ _).mono ?_
        rintro e w' ⟨rfl, rfl⟩
        rw [← Lib.contains_iff_indexByte, HT.out]
        go_wp2_with fail
        go_round
        case rel => exact ⟨k + 1, by omega, by go_num, by rw [take_snoc s k hlt, allIn, List.all_append, List.all_cons, HT.out, Bool.true_and, List.all_nil, Bool.and_true]; exact HA.out⟩
        case measure => simp [intOf]; omega
    · obtain rfl : k = s.size := by omega
      go_wp2_with fail
      go_ret
      refine ⟨ret_bool ?_, rfl⟩
      have h := HA.out
      rw [take_all] at h
      rw [h]
end Go.Proofs.YtipfjpihciiikaaGreatDoor

/-
  What Token of the document's answers compute; no condition but that a string is no longer than Go allows.
-/
namespace Go.Proofs.YtipfjpihciiikaaGreatDoor
open Go.RowKit

theorem isTok_all (c : UInt8) : [97, 98, 99, 100, 101, 102, 103, 104, 105, 106, 107, 108, 109, 110, 111, 112, 113, 114, 115, 116, 117, 118, 119, 120, 121, 122, 65, 66, 67, 68, 69, 70, 71, 72, 73, 74, 75, 76, 77, 78, 79, 80, 81, 82, 83, 84, 85, 86, 87, 88, 89, 90, 48, 49, 50, 51, 52, 53, 54, 55, 56, 57, 33, 35, 36, 37, 38, 39, 42, 43, 45, 46, 94, 95, 96, 124, 126].contains c = isTok c := by
  have := byAll (fun c => [97, 98, 99, 100, 101, 102, 103, 104, 105, 106, 107, 108, 109, 110, 111, 112, 113, 114, 115, 116, 117, 118, 119, 120, 121, 122, 65, 66, 67, 68, 69, 70, 71, 72, 73, 74, 75, 76, 77, 78, 79, 80, 81, 82, 83, 84, 85, 86, 87, 88, 89, 90, 48, 49, 50, 51, 52, 53, 54, 55, 56, 57, 33, 35, 36, 37, 38, 39, 42, 43, 45, 46, 94, 95, 96, 124, 126].contains c == isTok c) (by decide +kernel) c
  simpa using this

theorem allIn_tok (f l : List UInt8) (h : f = [97, 98, 99, 100, 101, 102, 103, 104, 105, 106, 107, 108, 109, 110, 111, 112, 113, 114, 115, 116, 117, 118, 119, 120, 121, 122, 65, 66, 67, 68, 69, 70, 71, 72, 73, 74, 75, 76, 77, 78, 79, 80, 81, 82, 83, 84, 85, 86, 87, 88, 89, 90, 48, 49, 50, 51, 52, 53, 54, 55, 56, 57, 33, 35, 36, 37, 38, 39, 42, 43, 45, 46, 94, 95, 96, 124, 126]) : allIn f l = l.all isTok := by
  subst h
  exact congrArg l.all (funext fun c => isTok_all c)

set_option maxHeartbeats 400000 in
set_option maxRecDepth 100000 in
theorem rtoken_any (s : ByteArray) (w : World) (hs : s.size ≤ maxLen) :
    Calls Tryz.prog 41 #[.string s] w fun e w' => e = .returned (.bool (token s.data.toList)) ∧ w' = w := by
  cases he : s.toList.isEmpty
  · have H : Hid (token s.data.toList = s.data.toList.all isTok) := by
      show token s.data.toList = _
      rw [token, ← ByteArray.toList_eq, he]; rfl
    go_enter Tryz.func41, Tryz.ntmps41
    go_wp2_with fail
    refine (allOf_any _ _ _ hs).mono ?_
    rintro e w' ⟨rfl, rfl⟩
    go_wp2_with fail
    go_ret
    refine ⟨ret_bool ?_, rfl⟩
    rw [H.out]
    exact allIn_tok _ _ rfl
  · have H : Hid (token s.data.toList = false) := by
      show token s.data.toList = _
      rw [token, ← ByteArray.toList_eq, he]; rfl
    go_enter Tryz.func41, Tryz.ntmps41
    go_wp2_with fail
    go_ret
    exact ⟨ret_bool H.out.symm, rfl⟩
end Go.Proofs.YtipfjpihciiikaaGreatDoor

/-
  What the functions plain and outside of the document's answers compute; a string is no longer than Go allows.
-/
namespace Go.Proofs.YtipfjpihciiikaaGreatDoor
open Go.RowKit

set_option maxHeartbeats 400000 in
set_option maxRecDepth 100000 in
theorem outside_any (a b c : Int) (w : World) :
    Calls Tryz.prog 60 #[.int .i64 a, .int .i64 b, .int .i64 c] w fun e w' => e = .returned (.bool (decide (a < b ∨ c < a))) ∧ w' = w := by
  by_cases h : a < b
  · rw [decide_eq_true (Or.inl h)]
    go_enter Tryz.func60, Tryz.ntmps60
    go_wp2
    go_ret
    exact ⟨rfl, rfl⟩
  · have hd : decide (a < b) = false := decide_eq_false h
    by_cases h2 : c < a
    · rw [decide_eq_true (Or.inr h2)]
      go_enter Tryz.func60, Tryz.ntmps60
      go_wp2
      go_ret
      exact ⟨ret_bool (by simp), rfl⟩
    · rw [decide_eq_false (by omega)]
      have hd2 : decide (c < a) = false := decide_eq_false h2
      go_enter Tryz.func60, Tryz.ntmps60
      go_wp2
      go_ret
      exact ⟨ret_bool (by simp), rfl⟩

set_option maxHeartbeats 400000 in
set_option maxRecDepth 100000 in
theorem rplain_any (s : ByteArray) (w : World) (hs : s.size ≤ maxLen) :
    Calls Tryz.prog 42 #[.string s] w fun e w' => e = .returned (.bool (allPlain s.data.toList)) ∧ w' = w := by
  unfold maxLen at hs
  go_enter Tryz.func42, Tryz.ntmps42
  go_wp2_with fail
  go_loop [6] (fun i => ∃ k : Nat, k ≤ s.size ∧ i = .int .i64 k ∧ allPlain (s.data.toList.take k) = true) (fun i => s.size - (intOf i).toNat)
  case atStart => exact ⟨0, Nat.zero_le _, rfl, rfl⟩
  case round =>
    obtain ⟨k, hk, rfl, hall⟩ := hrel
    have HA : Hid (allPlain (s.data.toList.take k) = true) := hall
    clear hall
    by_cases hlt : k < s.size
    · have hc1 : (s[k].toNat : Int) < 256 := by have := s[k].toNat_lt; omega
      by_cases h9 : (s[k].toNat : Int) = 9
      · have hd : ((s[k].toNat : Int) != 9) = false := by simp [h9]
        have HP : Hid (plainB s[k] = true) := by show plainB s[k] = true; rw [plainB_iff]; simp [h9]
        clear h9
        go_wp2_with fail
        go_round
        case rel => exact ⟨k + 1, by omega, by go_num, by rw [take_snoc s k hlt]; exact allPlain_snoc _ _ HA.out HP.out⟩
        case measure => simp [intOf]; omega
      · have hd : ((s[k].toNat : Int) != 9) = true := by simp [h9]
        by_cases ho : (s[k].toNat : Int) < 32 ∨ 126 < (s[k].toNat : Int)
        · have HP : Hid (plainB s[k] = false) := by show plainB s[k] = false; rw [plainB_iff, decide_eq_false]; omega
          have HO : Hid ((s[k].toNat : Int) < 32 ∨ 126 < (s[k].toNat : Int)) := ho
          clear h9 ho
          go_wp2_with fail
          refine (outside_any _ _ _ _).mono ?_
          rintro e w' ⟨rfl, rfl⟩
          rw [decide_eq_true HO.out]
          go_wp2_with fail
          go_ret
          exact ⟨ret_bool (allPlain_dead s k hlt HP.out).symm, rfl⟩
        · have HP : Hid (plainB s[k] = true) := by show plainB s[k] = true; rw [plainB_iff, decide_eq_true]; omega
          have HO : Hid (¬ ((s[k].toNat : Int) < 32 ∨ 126 < (s[k].toNat : Int))) := ho
          clear h9 ho
          go_wp2_with fail
          refine (outside_any _ _ _ _).mono ?_
          rintro e w' ⟨rfl, rfl⟩
          rw [decide_eq_false HO.out]
          go_wp2_with fail
          go_round
          case rel => exact ⟨k + 1, by omega, by go_num, by rw [take_snoc s k hlt]; exact allPlain_snoc _ _ HA.out HP.out⟩
          case measure => simp [intOf]; omega
    · obtain rfl : k = s.size := by omega
      go_wp2_with fail
      go_ret
      have h := HA.out
      rw [take_all] at h
      exact ⟨ret_bool h.symm, rfl⟩
end Go.Proofs.YtipfjpihciiikaaGreatDoor

/-
  What Trim of the document's answers computes, by recursion on the text's length; a text is no longer than Go allows.
-/
namespace Go.Proofs.YtipfjpihciiikaaGreatDoor
open Go.RowKit

theorem drop_data (s : ByteArray) : (s.extract 1 s.size).data.toList = s.data.toList.drop 1 := by
  rw [Lib.extract_data, List.take_of_length_le (by rw [List.length_drop, size_list]; omega)]
theorem take_data (s : ByteArray) : (s.extract 0 (s.size - 1)).data.toList = s.data.toList.take (s.data.toList.length - 1) := by
  rw [Lib.extract_data, List.drop_zero, size_list]; rfl

set_option maxHeartbeats 2000000 in
set_option maxRecDepth 100000 in
theorem rtrim_at (n : Nat) : ∀ (s t : ByteArray) (w : World), s.size ≤ n → n ≤ 100000 → t.data.toList = trimL s.data.toList →
    Calls Tryz.prog 90 #[.string s] w fun e w' => e = .returned (.string t) ∧ Below w.heap.size w w' := by
  induction n using Nat.strongRecOn with
  | _ n ih =>
    intro s t w hn hN ht
    have IH : Hid (∀ m, m < n → ∀ (s t : ByteArray) (w : World), s.size ≤ m → m ≤ 100000 → t.data.toList = trimL s.data.toList → Calls Tryz.prog 90 #[.string s] w fun e w' => e = .returned (.string t) ∧ Below w.heap.size w w') :=
      ih
    clear ih
    have HT : Hid (t.data.toList = trimL s.data.toList) := ht
    clear ht
    go_enter Tryz.func90, Tryz.ntmps90
    go_wp2_with fail
    go_loop [7] (fun i => ∃ k : Nat, k ≤ 2 ∧ i = .int .i64 k ∧ (1 ≤ k → Lib.hasPrefix s.data.toList [32] = false ∧ Lib.hasSuffix s.data.toList [32] = false) ∧ (2 ≤ k → Lib.hasPrefix s.data.toList [9] = false ∧ Lib.hasSuffix s.data.toList [9] = false)) (fun i => 2 - (intOf i).toNat)
    case atStart => exact ⟨0, by omega, rfl, fun h => absurd h (by omega), fun h => absurd h (by omega)⟩
    case round =>
      obtain ⟨k, hk, rfl, h1, h2⟩ := hrel
      have HH1 : Hid (1 ≤ k → Lib.hasPrefix s.data.toList [32] = false ∧ Lib.hasSuffix s.data.toList [32] = false) := h1
      have HH2 : Hid (2 ≤ k → Lib.hasPrefix s.data.toList [9] = false ∧ Lib.hasSuffix s.data.toList [9] = false) := h2
      clear h1 h2
      rcases (show k = 0 ∨ k = 1 ∨ k = 2 from by omega) with rfl | rfl | rfl
      · cases hp : Lib.hasPrefix s.data.toList [32]
        · cases hq : Lib.hasSuffix s.data.toList [32]
          · have HP : Hid (Lib.hasPrefix s.data.toList [32] = false) := hp
            have HQ : Hid (Lib.hasSuffix s.data.toList [32] = false) := hq
            clear hp hq
            go_wp2_with fail
            refine (Tryz.strings_HasPrefix s ⟨#[32]⟩ _).mono ?_
            rintro e w1 ⟨rfl, rfl⟩
            rw [show Lib.hasPrefix s.data.toList (⟨#[32]⟩ : ByteArray).data.toList = false from HP.out]
            go_wp2_with fail
            refine (Tryz.strings_HasSuffix s ⟨#[32]⟩ _ (by omega)).mono ?_
            rintro e w1 ⟨rfl, rfl⟩
            rw [show Lib.hasSuffix s.data.toList (⟨#[32]⟩ : ByteArray).data.toList = false from HQ.out]
            go_wp2_with fail
            go_round
            case rel => exact ⟨1, by omega, rfl, fun _ => by first | exact ⟨HP.out, HQ.out⟩ | simp, fun h => absurd h (by omega)⟩
            case measure => simp [intOf]
          · obtain ⟨e1, e2⟩ := trimL_suf _ 32 rfl hq
            rw [size_list] at e2
            have HP : Hid (Lib.hasPrefix s.data.toList [32] = false) := hp
            have HQ : Hid (Lib.hasSuffix s.data.toList [32] = true) := hq
            have HR : Hid (t.data.toList = trimL (s.extract 0 (s.size - 1)).data.toList) := by show _ = _; rw [take_data, e1]; exact HT.out
            have hz : (s.extract 0 (s.size - 1)).size ≤ n - 1 := by rw [ByteArray.size_extract]; omega
            clear hp hq e1
            go_wp2_with fail
            refine (Tryz.strings_HasPrefix s ⟨#[32]⟩ _).mono ?_
            rintro e w1 ⟨rfl, rfl⟩
            rw [show Lib.hasPrefix s.data.toList (⟨#[32]⟩ : ByteArray).data.toList = false from HP.out]
            go_wp2_with fail
            refine (Tryz.strings_HasSuffix s ⟨#[32]⟩ _ (by omega)).mono ?_
            rintro e w1 ⟨rfl, rfl⟩
            rw [show Lib.hasSuffix s.data.toList (⟨#[32]⟩ : ByteArray).data.toList = true from HQ.out]
            go_wp2_with fail
            refine (IH.out (n - 1) (by omega) _ t _ hz (by omega) HR.out).mono ?_
            rintro e w2 ⟨rfl, hb⟩
            go_wp2_with fail
            go_ret
            exact ⟨rfl, ((Below.refl _ w).alloc (Nat.le_refl _) _).trans (hb.mono (by simp))⟩
        · obtain ⟨e1, e2⟩ := trimL_pre _ 32 rfl hp
          rw [size_list] at e2
          have HP : Hid (Lib.hasPrefix s.data.toList [32] = true) := hp
          have HR : Hid (t.data.toList = trimL (s.extract 1 s.size).data.toList) := by show _ = _; rw [drop_data, e1]; exact HT.out
          have hz : (s.extract 1 s.size).size ≤ n - 1 := by rw [ByteArray.size_extract]; omega
          clear hp e1
          go_wp2_with fail
          refine (Tryz.strings_HasPrefix s ⟨#[32]⟩ _).mono ?_
          rintro e w1 ⟨rfl, rfl⟩
          rw [show Lib.hasPrefix s.data.toList (⟨#[32]⟩ : ByteArray).data.toList = true from HP.out]
          go_wp2_with fail
          refine (IH.out (n - 1) (by omega) _ t _ hz (by omega) HR.out).mono ?_
          rintro e w2 ⟨rfl, hb⟩
          go_wp2_with fail
          go_ret
          exact ⟨rfl, ((Below.refl _ w).alloc (Nat.le_refl _) _).trans (hb.mono (by simp))⟩
      · cases hp : Lib.hasPrefix s.data.toList [9]
        · cases hq : Lib.hasSuffix s.data.toList [9]
          · have HP : Hid (Lib.hasPrefix s.data.toList [9] = false) := hp
            have HQ : Hid (Lib.hasSuffix s.data.toList [9] = false) := hq
            clear hp hq
            go_wp2_with fail
            refine (Tryz.strings_HasPrefix s ⟨#[9]⟩ _).mono ?_
            rintro e w1 ⟨rfl, rfl⟩
            rw [show Lib.hasPrefix s.data.toList (⟨#[9]⟩ : ByteArray).data.toList = false from HP.out]
            go_wp2_with fail
            refine (Tryz.strings_HasSuffix s ⟨#[9]⟩ _ (by omega)).mono ?_
            rintro e w1 ⟨rfl, rfl⟩
            rw [show Lib.hasSuffix s.data.toList (⟨#[9]⟩ : ByteArray).data.toList = false from HQ.out]
            go_wp2_with fail
            go_round
            case rel => exact ⟨2, by omega, rfl, fun _ => HH1.out (by omega), fun _ => by first | exact ⟨HP.out, HQ.out⟩ | simp⟩
            case measure => simp [intOf]
          · obtain ⟨e1, e2⟩ := trimL_suf _ 9 rfl hq
            rw [size_list] at e2
            have HP : Hid (Lib.hasPrefix s.data.toList [9] = false) := hp
            have HQ : Hid (Lib.hasSuffix s.data.toList [9] = true) := hq
            have HR : Hid (t.data.toList = trimL (s.extract 0 (s.size - 1)).data.toList) := by show _ = _; rw [take_data, e1]; exact HT.out
            have hz : (s.extract 0 (s.size - 1)).size ≤ n - 1 := by rw [ByteArray.size_extract]; omega
            clear hp hq e1
            go_wp2_with fail
            refine (Tryz.strings_HasPrefix s ⟨#[9]⟩ _).mono ?_
            rintro e w1 ⟨rfl, rfl⟩
            rw [show Lib.hasPrefix s.data.toList (⟨#[9]⟩ : ByteArray).data.toList = false from HP.out]
            go_wp2_with fail
            refine (Tryz.strings_HasSuffix s ⟨#[9]⟩ _ (by omega)).mono ?_
            rintro e w1 ⟨rfl, rfl⟩
            rw [show Lib.hasSuffix s.data.toList (⟨#[9]⟩ : ByteArray).data.toList = true from HQ.out]
            go_wp2_with fail
            refine (IH.out (n - 1) (by omega) _ t _ hz (by omega) HR.out).mono ?_
            rintro e w2 ⟨rfl, hb⟩
            go_wp2_with fail
            go_ret
            exact ⟨rfl, ((Below.refl _ w).alloc (Nat.le_refl _) _).trans (hb.mono (by simp))⟩
        · obtain ⟨e1, e2⟩ := trimL_pre _ 9 rfl hp
          rw [size_list] at e2
          have HP : Hid (Lib.hasPrefix s.data.toList [9] = true) := hp
          have HR : Hid (t.data.toList = trimL (s.extract 1 s.size).data.toList) := by show _ = _; rw [drop_data, e1]; exact HT.out
          have hz : (s.extract 1 s.size).size ≤ n - 1 := by rw [ByteArray.size_extract]; omega
          clear hp e1
          go_wp2_with fail
          refine (Tryz.strings_HasPrefix s ⟨#[9]⟩ _).mono ?_
          rintro e w1 ⟨rfl, rfl⟩
          rw [show Lib.hasPrefix s.data.toList (⟨#[9]⟩ : ByteArray).data.toList = true from HP.out]
          go_wp2_with fail
          refine (IH.out (n - 1) (by omega) _ t _ hz (by omega) HR.out).mono ?_
          rintro e w2 ⟨rfl, hb⟩
          go_wp2_with fail
          go_ret
          exact ⟨rfl, ((Below.refl _ w).alloc (Nat.le_refl _) _).trans (hb.mono (by simp))⟩
      · go_wp2_with fail
        go_ret
        obtain ⟨p1, p2⟩ := HH1.out (by omega)
        obtain ⟨p3, p4⟩ := HH2.out (by omega)
        refine ⟨ret_str ?_, (Below.refl _ w).alloc (Nat.le_refl _) _⟩
        apply ByteArray.ext
        apply Array.ext'
        rw [HT.out, trimL_none _ p1 p2 p3 p4]
end Go.Proofs.YtipfjpihciiikaaGreatDoor

/-
  What oneField of the document's answers computes; a string is no longer than Go allows.
-/
namespace Go.Proofs.YtipfjpihciiikaaGreatDoor
open Go.RowKit

theorem rplain_is (s : ByteArray) (b : Bool) (h : allPlain s.data.toList = b) (w : World) (hs : s.size ≤ maxLen) :
    Calls Tryz.prog 42 #[.string s] w fun e w' => e = .returned (.bool b) ∧ w' = w := by
  rw [← h]; exact rplain_any s w hs


set_option maxHeartbeats 1000000 in
set_option maxRecDepth 100000 in
theorem roneField_any (n v : ByteArray) (w : World) (hn : n.size ≤ maxLen) (hv : v.size ≤ maxLen) :
    Calls Tryz.prog 91 #[.agg #[.string n, .string v]] w fun e w' => e = .returned (.int .i64 (chk1 (n.data.toList, v.data.toList))) ∧ Below w.heap.size w w' := by
  have HN : Hid (n.size ≤ maxLen) := hn
  have HV : Hid (v.size ≤ maxLen) := hv
  unfold maxLen at hn hv
  cases htk : token n.data.toList
  · have HC : Hid (chk1 (n.data.toList, v.data.toList) = 3) := chk1_tok _ htk
    have HT : Hid (token n.data.toList = false) := htk
    clear htk
    go_enter Tryz.func91, Tryz.ntmps91
    go_wp2_with fail
    refine (rtoken_any _ _ HN.out).mono ?_
    rintro e w1 ⟨rfl, rfl⟩
    rw [HT.out]
    go_wp2_with fail
    go_ret
    exact ⟨ret_int HC.out.symm, (Below.refl _ w).alloc (Nat.le_refl _) _⟩
  · have HT : Hid (token n.data.toList = true) := htk
    clear htk
    by_cases h1 : 30 < (n.size : Int)
    · have HC : Hid (chk1 (n.data.toList, v.data.toList) = 2) := chk1_large _ HT.out (.inl (by rw [size_list]; omega))
      have hd : decide (30 < (n.size : Int)) = true := decide_eq_true h1
      go_enter Tryz.func91, Tryz.ntmps91
      go_wp2_with fail
      refine (rtoken_any _ _ HN.out).mono ?_
      rintro e w1 ⟨rfl, rfl⟩
      rw [HT.out]
      go_wp2_with fail
      go_ret
      exact ⟨ret_int HC.out.symm, (Below.refl _ w).alloc (Nat.le_refl _) _⟩
    · have hd : decide (30 < (n.size : Int)) = false := decide_eq_false h1
      by_cases h2 : 1000 < (v.size : Int)
      · have HC : Hid (chk1 (n.data.toList, v.data.toList) = 2) := chk1_large _ HT.out (.inr (by rw [size_list]; omega))
        have hd2 : decide (1000 < (v.size : Int)) = true := decide_eq_true h2
        go_enter Tryz.func91, Tryz.ntmps91
        go_wp2_with fail
        refine (rtoken_any _ _ HN.out).mono ?_
        rintro e w1 ⟨rfl, rfl⟩
        rw [HT.out]
        go_wp2_with fail
        go_ret
        exact ⟨ret_int HC.out.symm, (Below.refl _ w).alloc (Nat.le_refl _) _⟩
      · have hd2 : decide (1000 < (v.size : Int)) = false := decide_eq_false h2
        have HL : Hid (¬ (30 < (n.data.toList, v.data.toList).1.length ∨ 1000 < (n.data.toList, v.data.toList).2.length)) := by
          show ¬ (30 < n.data.toList.length ∨ 1000 < v.data.toList.length)
          rw [size_list, size_list]; omega
        cases hp : allPlain v.data.toList
        · have HP : Hid (allPlain v.data.toList = false) := hp
          have HC : Hid (chk1 (n.data.toList, v.data.toList) = 3) := chk1_bad _ HT.out HL.out (fun h => by rw [hp] at h; simp at h)
          clear hp
          go_enter Tryz.func91, Tryz.ntmps91
          go_wp2_with fail
          refine (rtoken_any _ _ HN.out).mono ?_
          rintro e w1 ⟨rfl, rfl⟩
          rw [HT.out]
          go_wp2_with fail
          go_quiet (first | (go_at_call 42; exact Calls.quiet_of_same (rplain_is _ false HP.out _ HV.out)))
          go_wp2_with fail
          go_ret
          exact ⟨ret_int HC.out.symm, ((Below.refl _ w).alloc (Nat.le_refl _) _).trans (drewN_below _ _ _)⟩
        · have HP : Hid (allPlain v.data.toList = true) := hp
          clear hp
          obtain ⟨t, ht⟩ : ∃ t : ByteArray, t.data.toList = trimL v.data.toList := ⟨⟨(trimL v.data.toList).toArray⟩, rfl⟩
          have HTR : Hid (t.data.toList = trimL v.data.toList) := ht
          clear ht
          cases hq : (t.toList == v.toList)
          · have HC : Hid (chk1 (n.data.toList, v.data.toList) = 3) := chk1_bad _ HT.out HL.out (fun h => by
              have h2 : trimL v.data.toList = v.data.toList := h.2
              rw [ByteArray.toList_eq, ByteArray.toList_eq, HTR.out, h2] at hq
              simp at hq)
            go_enter Tryz.func91, Tryz.ntmps91
            go_wp2_with fail
            refine (rtoken_any _ _ HN.out).mono ?_
            rintro e w1 ⟨rfl, rfl⟩
            rw [HT.out]
            go_wp2_with fail
            go_region_held3 (fun w' => w'.cell? ⟨w.heap.size, 1, none⟩ = some (.string v)) (go_keep) (first | (go_at_call 42; refine (rplain_any _ _ HV.out).mono ?_; rintro e w2 ⟨rfl, rfl⟩; rw [HP.out]) | (go_at_call 90; refine (rtrim_at v.size v t _ (Nat.le_refl _) (by omega) HTR.out).mono ?_; rintro e w3 ⟨rfl, hb⟩; have hc3 : w3.cell? ⟨w.heap.size, 1, none⟩ = some (.string v) := (hb.cell (p := ⟨w.heap.size, 1, none⟩) (by simp)).trans (by simp)))
            all_goals
              go_wp2_with fail
              go_ret
              exact ⟨ret_int HC.out.symm, ((Below.refl _ w).alloc (Nat.le_refl _) _).drew.trans (hb.mono (by simp))⟩
          · have HC : Hid (chk1 (n.data.toList, v.data.toList) = 0) := chk1_ok _ HT.out HL.out ⟨HP.out, by
              rw [ByteArray.toList_eq, ByteArray.toList_eq, HTR.out] at hq
              simpa using hq⟩
            go_enter Tryz.func91, Tryz.ntmps91
            go_wp2_with fail
            refine (rtoken_any _ _ HN.out).mono ?_
            rintro e w1 ⟨rfl, rfl⟩
            rw [HT.out]
            go_wp2_with fail
            go_region_held3 (fun w' => w'.cell? ⟨w.heap.size, 1, none⟩ = some (.string v)) (go_keep) (first | (go_at_call 42; refine (rplain_any _ _ HV.out).mono ?_; rintro e w2 ⟨rfl, rfl⟩; rw [HP.out]) | (go_at_call 90; refine (rtrim_at v.size v t _ (Nat.le_refl _) (by omega) HTR.out).mono ?_; rintro e w3 ⟨rfl, hb⟩; have hc3 : w3.cell? ⟨w.heap.size, 1, none⟩ = some (.string v) := (hb.cell (p := ⟨w.heap.size, 1, none⟩) (by simp)).trans (by simp)))
            all_goals
              go_wp2_with fail
              go_ret
              exact ⟨ret_int HC.out.symm, ((Below.refl _ w).alloc (Nat.le_refl _) _).drew.trans (hb.mono (by simp))⟩
end Go.Proofs.YtipfjpihciiikaaGreatDoor

/-
  What FieldCheck of the document's answers computes, whatever list of fields comes in.
-/
namespace Go.Proofs.YtipfjpihciiikaaGreatDoor
open Go.RowKit

set_option maxHeartbeats 1000000 in
set_option maxRecDepth 100000 in
theorem rcheck_any (v : Value) (ls : List Fld) (w : World) (hf : Fl w v ls) (hm : Most maxLen ls) :
    Calls Tryz.prog 78 #[v] w fun e w' => e = .returned (.int .i64 (chk ls)) ∧ Below w.heap.size w w' := by
  obtain ⟨ad, cap, hv, hcap, hcm, hc⟩ := hf
  subst hv
  have HC : Hid (0 < ls.length → ∃ g off, ad = some ⟨g, off, none⟩ ∧ g < w.heap.size ∧
    ∀ (k : Nat) (h : k < ls.length), w.cell? ⟨g, off + k * 2, none⟩ = some (.string ⟨(ls[k]).1.toArray⟩) ∧ w.cell? ⟨g, off + k * 2 + 1, none⟩ = some (.string ⟨(ls[k]).2.toArray⟩)) := hc
  have HM : Hid (Most maxLen ls) := hm
  clear hc hm
  unfold maxLen at hcm
  by_cases h30 : 30 < (ls.length : Int)
  · have HK : Hid (chk ls = 2) := chk_many _ (by omega)
    go_enter Tryz.func78, Tryz.ntmps78
    go_wp2_with fail
    go_ret
    exact ⟨ret_int HK.out.symm, Below.refl _ _⟩
  · have HK : Hid (chk ls = chkL ls) := chk_few _ (by omega)
    go_enter Tryz.func78, Tryz.ntmps78
    go_wp2_with fail
    go_loopw [11] (fun i wr => ∃ k : Nat, k ≤ ls.length ∧ i = .int .i64 k ∧ chkL (ls.take k) = 0 ∧ Below w.heap.size w wr) (fun i _ => ls.length - (intOf i).toNat)
    case atStart => exact ⟨0, Nat.zero_le _, rfl, rfl, Below.refl _ _⟩
    case round =>
      obtain ⟨k, hk, rfl, hz, hw⟩ := hrel
      have HZ : Hid (chkL (ls.take k) = 0) := hz
      have hsz := hw.size
      clear hz
      by_cases hlt : k < ls.length
      · obtain ⟨g, off, rfl, hgs, hce⟩ := HC.out (by omega)
        obtain ⟨c1, c2⟩ := hce k hlt
        have hmo := HM.out ls[k] (List.getElem_mem hlt)
        obtain ⟨n, hn⟩ : ∃ n : ByteArray, n = ⟨(ls[k]).1.toArray⟩ := ⟨_, rfl⟩
        obtain ⟨u, hu⟩ : ∃ u : ByteArray, u = ⟨(ls[k]).2.toArray⟩ := ⟨_, rfl⟩
        have HN : Hid (n.size ≤ maxLen) := by show _ ≤ _; rw [← size_list, hn]; exact hmo.1
        have HU : Hid (u.size ≤ maxLen) := by show _ ≤ _; rw [← size_list, hu]; exact hmo.2
        have HE : Hid (chk1 (n.data.toList, u.data.toList) = chk1 ls[k]) := by show _ = _; rw [hn, hu]
        have d1 : wr.cell? ⟨g, off + k * 2, none⟩ = some (.string n) := by rw [hw.cell (p := ⟨g, off + k * 2, none⟩) hgs, hn]; exact c1
        have d2 : wr.cell? ⟨g, off + k * 2 + 1, none⟩ = some (.string u) := by rw [hw.cell (p := ⟨g, off + k * 2 + 1, none⟩) hgs, hu]; exact c2
        have hgr : g < wr.heap.size := by omega
        clear hce c1 c2 hmo hn hu
        have hki : (k : Int) < (ls.length : Int) := by omega
        have hk0 : (0 : Int) ≤ (k : Int) := by omega
        by_cases hch : chk1 ls[k] = 0
        · have HCH : Hid (chk1 (n.data.toList, u.data.toList) = 0) := by show _ = _; rw [HE.out]; exact hch
          have HNX : Hid (chkL (ls.take (k + 1)) = 0) := chkL_take ls k hlt HZ.out hch
          clear hch
          go_wp2_with fail
          refine (roneField_any n u _ HN.out HU.out).mono ?_
          rintro e w2 ⟨rfl, hb⟩
          rw [HCH.out]
          go_wp2_with fail
          go_roundw
          case rel => exact ⟨k + 1, by omega, by go_num, HNX.out, ((hw.alloc (by omega) _)).trans (hb.mono (by simp; omega))⟩
          case measure => simp [intOf]; omega
        · obtain ⟨c, hcc⟩ : ∃ c : Int, c = chk1 ls[k] := ⟨_, rfl⟩
          have HNC : Hid (chk ls = c) := by show _ = _; rw [HK.out, hcc]; exact chkL_dead ls k hlt HZ.out hch
          have HCH : Hid (chk1 (n.data.toList, u.data.toList) = c) := by show _ = _; rw [HE.out, hcc]
          have hc0 : c ≠ 0 := by rw [hcc]; exact hch
          have hcb : (c != 0) = true := by simpa using hc0
          clear hch hcc hc0
          go_wp2_with fail
          refine (roneField_any n u _ HN.out HU.out).mono ?_
          rintro e w2 ⟨rfl, hb⟩
          rw [HCH.out]
          go_wp2_with fail
          go_ret
          exact ⟨ret_int HNC.out.symm, ((hw.alloc (by omega) _)).trans (hb.mono (by simp; omega))⟩
      · have HNC : Hid (chk ls = 0) := by
          show _ = _
          rw [HK.out, ← HZ.out, List.take_of_length_le (by omega)]
        go_wp2_with fail
        go_ret
        exact ⟨ret_int HNC.out.symm, hw⟩
end Go.Proofs.YtipfjpihciiikaaGreatDoor

/-
  What FieldPrint of the document's answers computes, whatever list of fields comes in.
-/
namespace Go.Proofs.YtipfjpihciiikaaGreatDoor
open Go.RowKit

theorem app_two (a : List UInt8) (s : ByteArray) : (⟨a.toArray⟩ : ByteArray) ++ s = ⟨(a ++ s.data.toList).toArray⟩ := by
  apply ByteArray.ext
  apply Array.ext'
  simp [ByteArray.data_append]

set_option maxHeartbeats 4000000 in
set_option maxRecDepth 100000 in
theorem rprint_any (v : Value) (ls : List Fld) (w : World) (hf : Fl w v ls) (hm : Most maxLen ls) :
    Calls Tryz.prog 44 #[v] w fun e w' => e = .returned (.tuple #[.string ⟨(prtS ls).1.toArray⟩, .int .i64 (prtS ls).2]) ∧ Below w.heap.size w w' := by
  have HF : Hid (Fl w v ls) := hf
  have HM : Hid (Most maxLen ls) := hm
  clear hf hm
  by_cases hch : chk ls = 0
  · have HCH : Hid (chk ls = 0) := hch
    have HP : Hid (prtS ls = (prt ls ++ [13, 10], 0)) := prtS_ok ls hch
    clear hch
    obtain ⟨ad, cap, hv, hcap, hcm, _⟩ := HF.out
    subst hv
    have hl30 := (chk_zero ls HCH.out).1
    unfold maxLen at hcm
    go_enter Tryz.func44, Tryz.ntmps44
    go_wp2_with fail
    refine (rcheck_any _ ls _ HF.out HM.out).mono ?_
    rintro e w1 ⟨rfl, hb1⟩
    have HF1 : Hid (Fl w1 (.slice ad ls.length cap) ls) := HF.out.below hb1
    have hsz1 := hb1.size
    rw [HCH.out]
    go_wp2_with fail
    go_loopw [5, 15] (fun o i wr => ∃ (k : Nat) (t : ByteArray), k ≤ ls.length ∧ i = .int .i64 k ∧ o = .string t ∧ t = ⟨(prt (ls.take k)).toArray⟩ ∧ Below w1.heap.size w1 wr) (fun _ i _ => ls.length - (intOf i).toNat)
    case atStart => exact ⟨0, _, Nat.zero_le _, rfl, rfl, rfl, Below.refl _ _⟩
    case round =>
      obtain ⟨k, t, hk, rfl, rfl, ht, hw⟩ := hrel
      have hsz := hw.size
      have hpl := prt_take_len ls HCH.out k
      have HT : Hid (t = ⟨(prt (ls.take k)).toArray⟩) := ht
      have hts : t.size ≤ 31020 := by rw [ht, ← size_list]; exact hpl
      clear ht
      by_cases hlt : k < ls.length
      · obtain ⟨ad', cap', hv', _, _, hc'⟩ := HF1.out
        simp only [Value.slice.injEq] at hv'
        obtain ⟨rfl, _, rfl⟩ := hv'
        obtain ⟨g, off, rfl, hgs, hce⟩ := hc' (by omega)
        obtain ⟨c1, c2⟩ := hce k hlt
        have hsh := chk_short ls HCH.out ls[k] (List.getElem_mem hlt)
        obtain ⟨n, hn⟩ : ∃ n : ByteArray, n = ⟨(ls[k]).1.toArray⟩ := ⟨_, rfl⟩
        obtain ⟨u, hu⟩ : ∃ u : ByteArray, u = ⟨(ls[k]).2.toArray⟩ := ⟨_, rfl⟩
        have hns : n.size ≤ 30 := by rw [← size_list, hn]; exact hsh.1
        have hus : u.size ≤ 1000 := by rw [← size_list, hu]; exact hsh.2
        have HE : Hid (t ++ (n ++ ⟨#[58, 32]⟩ ++ u ++ ⟨#[13, 10]⟩) = ⟨(prt (ls.take (k + 1))).toArray⟩) := by
          show _ = _
          rw [prt_take ls k hlt, hn, hu, HT.out]
          apply ByteArray.ext
          apply Array.ext'
          simp [ln, ByteArray.data_append]
        have d1 : wr.cell? ⟨g, off + k * 2, none⟩ = some (.string n) := by rw [hw.cell (p := ⟨g, off + k * 2, none⟩) hgs, hn]; exact c1
        have d2 : wr.cell? ⟨g, off + k * 2 + 1, none⟩ = some (.string u) := by rw [hw.cell (p := ⟨g, off + k * 2 + 1, none⟩) hgs, hu]; exact c2
        have hgr : g < wr.heap.size := by omega
        clear hce c1 c2 hsh hn hu hc'
        have hki : (k : Int) < (ls.length : Int) := by omega
        have hk0 : (0 : Int) ≤ (k : Int) := by omega
        go_wp2_with fail
        go_roundw
        case rel => exact ⟨k + 1, _, by omega, by go_num, rfl, by first | exact HE.out | (rw [← HE.out]), hw.alloc (by omega) _⟩
        case measure => simp [intOf]; omega
      · have HEnd : Hid (ls.take k = ls) := List.take_of_length_le (by omega)
        go_wp2_with fail
        go_ret2
        refine ⟨ret_se ?_ (by rw [HP.out]), hb1.trans (hw.mono hsz1)⟩
        rw [HP.out, HT.out, HEnd.out, app_two]
  · have HP : Hid (prtS ls = ([], chk ls)) := prtS_bad ls hch
    obtain ⟨c, hc⟩ : ∃ c, c = chk ls := ⟨_, rfl⟩
    have HC : Hid (chk ls = c) := hc.symm
    have hcb : (c != 0) = true := by rw [hc]; simpa using hch
    clear hch hc
    go_enter Tryz.func44, Tryz.ntmps44
    go_wp2_with fail
    refine (rcheck_any _ ls _ HF.out HM.out).mono ?_
    rintro e w1 ⟨rfl, hb1⟩
    rw [HC.out]
    go_wp2_with fail
    go_ret2
    exact ⟨ret_se (by rw [HP.out]) (by rw [HP.out, HC.out]), hb1⟩
end Go.Proofs.YtipfjpihciiikaaGreatDoor
