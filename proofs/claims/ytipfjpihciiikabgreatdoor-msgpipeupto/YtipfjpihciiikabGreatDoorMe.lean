/-
  What readField of package field computes; a line has at most 1100 bytes, and the package variable that the library reads holds some number.
-/
import Derived.Test.YtipfjpihciiikabGreatDoorMd
import Derived.Test.YtipfjpihciiikabGreatDoorRows
import Derived.Test.YtipfjpihciiikabGreatDoorShelf
import Derived.Lib.OthersKept
import Derived.Deep.RegionHeld3
namespace Go.Proofs.YtipfjpihciiikabGreatDoor
open Go.RowKit

set_option maxHeartbeats 2000000 in
set_option maxRecDepth 100000 in
theorem readField_at (s x y : ByteArray) (c : Int) (h : rdF s.data.toList = ((x.data.toList, y.data.toList), c)) (m : Int) (w : World) (hm : w.cell? ⟨0, 0, none⟩ = some (.int .i64 m)) (hs : s.size ≤ 1100) :
    Calls Tryz.prog 38 #[.string s] w fun e w' => e = .returned (.tuple #[.agg #[.string x, .string y], .int .i64 c]) ∧ Below w.heap.size w w' := by
  have HM : Hid ((w.alloc (.cells #[.string ⟨#[]⟩, .string ⟨#[]⟩] 47)).cell? ⟨0, 0, none⟩ = some (.int .i64 m)) := by
    show _ = _
    rw [World.cell?_alloc_lt _ _ _ (cell_in hm)]; exact hm
  have HG0 : Hid ((w.alloc (.cells #[.string ⟨#[]⟩, .string ⟨#[]⟩] 47)).heap[w.heap.size]? = some (.cells #[.string ⟨#[]⟩, .string ⟨#[]⟩] 47 (0, 0))) := pair_new _ _ _ _
  have HB0 : Hid (Below w.heap.size w (w.alloc (.cells #[.string ⟨#[]⟩, .string ⟨#[]⟩] 47))) := (Below.refl _ w).alloc (Nat.le_refl _) _
  clear hm
  rcases index_two' s.data.toList [58] with hi | ⟨k, hi, hk⟩
  · have HC : Hid (Lib.cut s.data.toList (⟨#[58]⟩ : ByteArray).data.toList = (s.data.toList, (⟨#[]⟩ : ByteArray).data.toList, false)) := cut_no _ _ hi
    rw [rdF_no _ hi] at h
    simp only [Prod.mk.injEq] at h
    obtain ⟨⟨h1, h2⟩, rfl⟩ := h
    obtain rfl : (⟨#[]⟩ : ByteArray) = x := mk_self x [] h1.symm
    obtain rfl : (⟨#[]⟩ : ByteArray) = y := mk_self y [] h2.symm
    clear hi h1 h2
    go_enter Tryz.func38, Tryz.ntmps38
    go_wp2_with fail
    refine (scut_at s _ s ⟨#[]⟩ false HC.out m _ HM.out (by omega)).mono ?_
    rintro e w1 ⟨rfl, nd, rfl⟩
    go_wp2_with fail
    refine bodyPost_ret (v := .tuple #[.agg #[.string ⟨#[]⟩, .string ⟨#[]⟩], .int .i64 3]) (by simp [results, Tryz.results38, go_sem]) rfl ⟨rfl, ?_⟩
    exact ((HB0.out.trans (drewN_below _ _ _)).setCell (p := ⟨w.heap.size, 0, none⟩) (Nat.le_refl _) _).setCell (p := ⟨w.heap.size, 1, none⟩) (Nat.le_refl _) _
  · obtain ⟨a, ha⟩ : ∃ a : ByteArray, a.data.toList = s.data.toList.take k := ⟨⟨(s.data.toList.take k).toArray⟩, rfl⟩
    obtain ⟨b, hb⟩ : ∃ b : ByteArray, b.data.toList = s.data.toList.drop (k + 1) := ⟨⟨(s.data.toList.drop (k + 1)).toArray⟩, rfl⟩
    obtain ⟨t, ht⟩ : ∃ t : ByteArray, t.data.toList = trimL b.data.toList := ⟨⟨(trimL b.data.toList).toArray⟩, rfl⟩
    have HT : Hid (t.data.toList = trimL b.data.toList) := ht
    have HC : Hid (Lib.cut s.data.toList (⟨#[58]⟩ : ByteArray).data.toList = (a.data.toList, b.data.toList, true)) := by
      show _ = _
      rw [ha, hb]; exact cut_yes _ _ k hi
    have hsz := size_list s
    have has : a.size ≤ 1100 := by rw [← size_list, ha, List.length_take]; omega
    have hbs : b.size ≤ 1100 := by rw [← size_list, hb, List.length_drop]; omega
    have hts : t.size ≤ 1100 := by rw [← size_list, ht]; have := trimL_len b.data.toList; rw [size_list] at this; omega
    have HA : Hid (a.size ≤ maxLen) := by show _ ≤ _; unfold maxLen; omega
    have HTS : Hid (t.size ≤ maxLen) := by show _ ≤ _; unfold maxLen; omega
    by_cases hc : chk1 (a.data.toList, t.data.toList) = 0
    · have HCH : Hid (chk1 (a.data.toList, t.data.toList) = 0) := hc
      rw [rdF_ok _ k hi (by rw [← ha, ← hb, ← ht]; exact hc), ← ha, ← hb, ← ht] at h
      simp only [Prod.mk.injEq] at h
      obtain ⟨⟨h1, h2⟩, rfl⟩ := h
      obtain rfl : a = x := mk_self x _ h1.symm
      obtain rfl : t = y := mk_self y _ h2.symm
      clear hi h1 h2 hc ha hb ht hk
      go_enter Tryz.func38, Tryz.ntmps38
      go_wp2_with fail
      refine (scut_at _ _ a b true HC.out m _ HM.out (by omega)).mono ?_
      rintro e w1 ⟨rfl, nd, rfl⟩
      have HG1 : Hid (((w.alloc (.cells #[.string ⟨#[]⟩, .string ⟨#[]⟩] 47)).drewN nd).heap[w.heap.size]? = some (.cells #[.string ⟨#[]⟩, .string ⟨#[]⟩] 47 (0, 0))) := pair_below HG0.out (drewN_below _ _ _)
      have HB1 := HB0.out.trans (drewN_below w.heap.size _ nd)
      go_wp2_with fail
      refine (trim_at b t HT.out _ (by omega)).mono ?_
      rintro e w2 ⟨rfl, hb2⟩
      have HG2 : Hid (w2.heap[w.heap.size]? = some (.cells #[.string ⟨#[]⟩, .string ⟨#[]⟩] 47 (0, 0))) := pair_below HG1.out hb2
      have HB2 := HB1.trans (hb2.mono HB1.size)
      have hl2 := HB2.size
      have HG3 : Hid ((w2.alloc (.cells #[.string a, .string t] 47)).heap[w.heap.size]? = some (.cells #[.string ⟨#[]⟩, .string ⟨#[]⟩] 47 (0, 0))) := pair_below HG2.out ((Below.refl _ w2).alloc (Nat.le_refl _) _)
      have HN3 : Hid ((w2.alloc (.cells #[.string a, .string t] 47)).heap[w2.heap.size]? = some (.cells #[.string a, .string t] 47 (0, 0))) := pair_new _ _ _ _
      have HB3 := HB2.alloc hl2 (.cells #[.string a, .string t] 47)
      clear hb2
      go_wp2_with fail
      refine (checkOne_any a t _ HA.out HTS.out).mono ?_
      rintro e w4 ⟨rfl, hb4⟩
      rw [HCH.out]
      have HG4 : Hid (w4.heap[w.heap.size]? = some (.cells #[.string ⟨#[]⟩, .string ⟨#[]⟩] 47 (0, 0))) := pair_below HG3.out hb4
      have HN4 : Hid (w4.heap[w2.heap.size]? = some (.cells #[.string a, .string t] 47 (0, 0))) := pair_below HN3.out hb4
      have HB4 := HB3.trans (hb4.mono HB3.size)
      obtain ⟨n1, n2, _, _, _⟩ := pair_all HN4.out
      clear hb4
      go_wp2_with fail
      refine (fclone_any a t _ (by omega) (by omega)).mono ?_
      rintro e w5 ⟨rfl, hb5⟩
      have HG5 : Hid (w5.heap[w.heap.size]? = some (.cells #[.string ⟨#[]⟩, .string ⟨#[]⟩] 47 (0, 0))) := pair_below HG4.out hb5
      have HB5 := HB4.trans (hb5.mono HB4.size)
      obtain ⟨g1, g2, g3, g4, g5⟩ := pair_all HG5.out
      clear hb5 n1 n2
      go_wp2_with fail
      refine bodyPost_ret (v := .tuple #[.agg #[.string a, .string t], .int .i64 0]) (by simp [results, Tryz.results38, go_sem, g1, g2]) rfl ⟨rfl, ?_⟩
      exact (HB5.setCell (p := ⟨w.heap.size, 0, none⟩) (Nat.le_refl _) _).setCell (p := ⟨w.heap.size, 1, none⟩) (Nat.le_refl _) _
    · rw [rdF_bad _ k hi (by rw [← ha, ← hb, ← ht]; exact hc), ← ha, ← hb, ← ht] at h
      simp only [Prod.mk.injEq] at h
      obtain ⟨⟨h1, h2⟩, hcc⟩ := h
      have HCH : Hid (chk1 (a.data.toList, t.data.toList) = c) := hcc
      have hcb : (c != 0) = true := by rw [← hcc]; simpa using hc
      obtain rfl : (⟨#[]⟩ : ByteArray) = x := mk_self x [] h1.symm
      obtain rfl : (⟨#[]⟩ : ByteArray) = y := mk_self y [] h2.symm
      clear hi h1 h2 hc ha hb ht hk hcc
      go_enter Tryz.func38, Tryz.ntmps38
      go_wp2_with fail
      refine (scut_at _ _ a b true HC.out m _ HM.out (by omega)).mono ?_
      rintro e w1 ⟨rfl, nd, rfl⟩
      have HG1 : Hid (((w.alloc (.cells #[.string ⟨#[]⟩, .string ⟨#[]⟩] 47)).drewN nd).heap[w.heap.size]? = some (.cells #[.string ⟨#[]⟩, .string ⟨#[]⟩] 47 (0, 0))) := pair_below HG0.out (drewN_below _ _ _)
      have HB1 := HB0.out.trans (drewN_below w.heap.size _ nd)
      go_wp2_with fail
      refine (trim_at b t HT.out _ (by omega)).mono ?_
      rintro e w2 ⟨rfl, hb2⟩
      have HG2 : Hid (w2.heap[w.heap.size]? = some (.cells #[.string ⟨#[]⟩, .string ⟨#[]⟩] 47 (0, 0))) := pair_below HG1.out hb2
      have HB2 := HB1.trans (hb2.mono HB1.size)
      have hl2 := HB2.size
      have HG3 : Hid ((w2.alloc (.cells #[.string a, .string t] 47)).heap[w.heap.size]? = some (.cells #[.string ⟨#[]⟩, .string ⟨#[]⟩] 47 (0, 0))) := pair_below HG2.out ((Below.refl _ w2).alloc (Nat.le_refl _) _)
      have HB3 := HB2.alloc hl2 (.cells #[.string a, .string t] 47)
      clear hb2
      go_wp2_with fail
      refine (checkOne_any a t _ HA.out HTS.out).mono ?_
      rintro e w4 ⟨rfl, hb4⟩
      rw [HCH.out]
      have HG4 : Hid (w4.heap[w.heap.size]? = some (.cells #[.string ⟨#[]⟩, .string ⟨#[]⟩] 47 (0, 0))) := pair_below HG3.out hb4
      have HB4 := HB3.trans (hb4.mono HB3.size)
      obtain ⟨g1, g2, g3, g4, g5⟩ := pair_all HG4.out
      clear hb4
      go_wp2_with fail
      refine bodyPost_ret (v := .tuple #[.agg #[.string ⟨#[]⟩, .string ⟨#[]⟩], .int .i64 c]) (by simp [results, Tryz.results38, go_sem, g1, g2]) rfl ⟨rfl, ?_⟩
      exact (HB4.setCell (p := ⟨w.heap.size, 0, none⟩) (Nat.le_refl _) _).setCell (p := ⟨w.heap.size, 1, none⟩) (Nat.le_refl _) _
end Go.Proofs.YtipfjpihciiikabGreatDoor

/-
  What Parse of package field computes; the text has less than 2^32 - 15 bytes, and the package variable that the library reads holds some number.
-/
namespace Go.Proofs.YtipfjpihciiikabGreatDoor
open Go.RowKit

def lenV : Value → Nat
  | .string s => s.size
  | _ => 0
/-- How many bytes were read. -/
def parN (l : List UInt8) : Int := if (parS l []).2.2 = 0 then (l.length : Int) - ((parS l []).2.1.length : Int) else 0
theorem ret_three {v : Value} {a b c d : Int} (h : a = b) (h' : c = d) : Ending.returned (.tuple #[v, .int .i64 a, .int .i64 c]) = .returned (.tuple #[v, .int .i64 b, .int .i64 d]) := by rw [h, h']

set_option maxHeartbeats 8000000 in
set_option maxRecDepth 100000 in
theorem parse_any (s : ByteArray) (m : Int) (w : World) (hm : w.cell? ⟨0, 0, none⟩ = some (.int .i64 m)) (hs : s.size < 4294967281) :
    Calls Tryz.prog 24 #[.string s] w fun e w' => ∃ v, e = .returned (.tuple #[v, .int .i64 (parN s.data.toList), .int .i64 (parS s.data.toList []).2.2]) ∧
      w'.ownsRow w.heap.size 47 2 v (parS s.data.toList []).1.length (flds (parS s.data.toList []).1) ∧ Below w.heap.size w w' := by
  obtain ⟨i0, hi, hz0, hz1, hz2⟩ := info_parts infoF
  have HM : Hid (w.cell? ⟨0, 0, none⟩ = some (.int .i64 m)) := hm
  clear hm
  have hsl := size_list s
  have HSL : Hid (s.data.toList.length = s.size) := hsl
  clear hsl
  go_enter Tryz.func24, Tryz.ntmps24
  go_wp2_with fail
  go_loopw [5, 6] (fun v rv wr => ∃ (r : ByteArray) (ps : List Fld), rv = .string r ∧ parS r.data.toList ps = parS s.data.toList [] ∧ r.size ≤ s.size ∧ ps.length ≤ 30 ∧ wr.ownsRow w.heap.size 47 2 v ps.length (flds ps) ∧ Below w.heap.size w wr) (fun _ rv _ => lenV rv)
  case atStart => exact ⟨s, [], rfl, rfl, Nat.le_refl _, by simp, World.ownsRow_nil _ _ _ _, Below.refl _ _⟩
  case round =>
    obtain ⟨r, ps, rfl, hpar, hrs, hpl, hown, hw⟩ := hrel
    have HPAR : Hid (parS r.data.toList ps = parS s.data.toList []) := hpar
    clear hpar
    have hsz := hw.size
    have HMr : Hid (wr.cell? ⟨0, 0, none⟩ = some (.int .i64 m)) := cell_keep hw HM.out
    have hrl := size_list r
    obtain ⟨ad, cap, hv, hcm, hnc, hcx⟩ := own_form2 hown
    subst hv
    clear hcx
    unfold maxLen at hcm
    rcases index_two' r.data.toList [13, 10] with hix | ⟨k, hix, hk⟩
    · obtain ⟨c, hc⟩ : ∃ c : Int, c = if 1101 < r.data.toList.length then 2 else 8 := ⟨_, rfl⟩
      have HIX : Hid (Lib.index r.data.toList [13, 10] = -1) := hix
      have HC : Hid ((if 1101 < r.data.toList.length then 2 else 8 : Int) = c) := hc.symm
      have HR : Hid (parS s.data.toList [] = ([], [], c)) := by show _ = _; rw [← HPAR.out, par_none _ _ hix, hc]
      have hcb : (c != 0) = true := by rw [hc]; split <;> rfl
      have HC0 : Hid (c ≠ 0) := by show _ ≠ _; rw [hc]; split <;> decide
      clear hix hc hrl
      go_wp2_with fail
      refine (cutLine_no r 1100 (by omega) HIX.out m _ HMr.out (by omega)).mono ?_
      rintro e w1 ⟨rfl, nd, rfl⟩
      rw [HC.out]
      go_wp2_with fail
      go_ret3
      refine ⟨.slice none 0 0, ret_three ?_ (by rw [HR.out]), by rw [HR.out]; exact World.ownsRow_nil _ _ _ _, hw.trans (drewN_below _ _ _)⟩
      unfold parN; rw [HR.out, if_neg HC0.out]
    · replace hk : k + 2 ≤ r.size := by simpa using hk
      have HIX : Hid (Lib.index r.data.toList [13, 10] = k) := hix
      obtain ⟨b, hb⟩ : ∃ b : ByteArray, b.data.toList = r.data.toList.drop (k + 2) := ⟨⟨(r.data.toList.drop (k + 2)).toArray⟩, rfl⟩
      have HB : Hid (b.data.toList = r.data.toList.drop (k + 2)) := hb
      have hbs : b.size = r.size - (k + 2) := by rw [← size_list, hb, List.length_drop, hrl]
      by_cases hk0 : k = 0
      · subst hk0
        have HA : Hid ((⟨#[]⟩ : ByteArray).data.toList = r.data.toList.take 0) := by show _ = _; simp
        have HR : Hid (parS s.data.toList [] = (ps, b.data.toList, 0)) := by show _ = _; rw [← HPAR.out, par_end _ _ hix, hb]
        have HBL := size_list b
        clear hix hb hrl
        go_wp2_with fail
        refine (cutLine_yes r ⟨#[]⟩ b 1100 0 HIX.out (by omega) HA.out HB.out m _ HMr.out (by omega)).mono ?_
        rintro e w1 ⟨rfl, nd, rfl⟩
        go_wp2_with fail
        go_ret3
        refine ⟨_, ret_three ?_ (by rw [HR.out]), by rw [HR.out]; exact own_below3 hown (drewN_below _ _ _), hw.trans (drewN_below _ _ _)⟩
        unfold parN; rw [HR.out, if_pos rfl, HSL.out, HBL]; omega
      · obtain ⟨a, ha⟩ : ∃ a : ByteArray, a.data.toList = r.data.toList.take k := ⟨⟨(r.data.toList.take k).toArray⟩, rfl⟩
        have HA : Hid (a.data.toList = r.data.toList.take k) := ha
        have has : a.size = k := by rw [← size_list, ha, List.length_take, hrl]; omega
        have hem : a.toList.isEmpty = false := by
          rw [ByteArray.toList_eq, isEmpty_size, has]; simp [hk0]
        clear ha hb hrl hix
        by_cases h1 : 1100 < (a.size : Int)
        · have HR : Hid (parS s.data.toList [] = ([], [], 2)) := by show _ = _; rw [← HPAR.out]; exact par_large _ _ k HIX.out hk0 (.inl (by omega))
          have hk1 : 1100 < k := by omega
          clear has
          go_wp2_with fail
          refine (cutLine_large r 1100 k HIX.out hk1 m _ HMr.out (by omega)).mono ?_
          rintro e w1 ⟨rfl, nd, rfl⟩
          go_wp2_with fail
          go_ret3
          refine ⟨.slice none 0 0, ret_three ?_ (by rw [HR.out]), by rw [HR.out]; exact World.ownsRow_nil _ _ _ _, hw.trans (drewN_below _ _ _)⟩
          unfold parN; rw [HR.out, if_neg (by decide)]
        · have hk2 : k ≤ 1100 := by omega
          by_cases h2 : ps.length = 30
          · have HR : Hid (parS s.data.toList [] = ([], [], 2)) := by show _ = _; rw [← HPAR.out]; exact par_large _ _ k HIX.out hk0 (.inr (by omega))
            have hd2 : ((ps.length : Int) == 30) = true := by rw [h2]; rfl
            clear has h2
            go_wp2_with fail
            refine (cutLine_yes r a b 1100 k HIX.out hk2 HA.out HB.out m _ HMr.out (by omega)).mono ?_
            rintro e w1 ⟨rfl, nd, rfl⟩
            go_wp2_with fail
            go_ret3
            refine ⟨.slice none 0 0, ret_three ?_ (by rw [HR.out]), by rw [HR.out]; exact World.ownsRow_nil _ _ _ _, hw.trans (drewN_below _ _ _)⟩
            unfold parN; rw [HR.out, if_neg (by decide)]
          · have hd2 : ((ps.length : Int) == 30) = false := by rw [beq_eq_false_iff_ne]; omega
            have has2 : a.size ≤ 1100 := by omega
            have hnl : ¬ (1100 < k ∨ 30 ≤ ps.length) := by omega
            obtain ⟨x, y, c, hrd⟩ : ∃ (x y : ByteArray) (c : Int), rdF a.data.toList = ((x.data.toList, y.data.toList), c) := ⟨⟨(rdF a.data.toList).1.1.toArray⟩, ⟨(rdF a.data.toList).1.2.toArray⟩, (rdF a.data.toList).2, rfl⟩
            have HRD : Hid (rdF a.data.toList = ((x.data.toList, y.data.toList), c)) := hrd
            by_cases hc0 : c = 0
            · subst hc0
              have HR : Hid (parS b.data.toList (ps ++ [(x.data.toList, y.data.toList)]) = parS s.data.toList []) := by
                show _ = _
                rw [← HPAR.out, par_ok _ _ k HIX.out hk0 hnl (by rw [← HA.out, hrd]), ← HA.out, ← HB.out, hrd]
              have hpl2 : ps.length < 30 := by omega
              clear has hrd h2 hnl
              go_wp2_with fail
              refine (cutLine_yes r a b 1100 k HIX.out hk2 HA.out HB.out m _ HMr.out (by omega)).mono ?_
              rintro e w1 ⟨rfl, nd, rfl⟩
              have hown1 := own_below3 hown (drewN_below wr.heap.size wr nd)
              have hw1 := hw.trans (drewN_below w.heap.size wr nd)
              have HM1 : Hid ((wr.drewN nd).cell? ⟨0, 0, none⟩ = some (.int .i64 m)) := cell_keep hw1 HM.out
              clear hown
              go_wp2_with fail
              refine (readField_at a x y 0 HRD.out m _ HM1.out has2).mono ?_
              rintro e w3 ⟨rfl, hb3⟩
              have hown3 := own_below3 hown1 hb3
              have hw3 := hw1.trans (hb3.mono hw1.size)
              have hsz3 := hw3.size
              clear hown1 hb3
              go_wp2_with (at_builtin; refine wpList_append_own _ rfl _ _ 23 rfl w.heap.size 47 i0 (.agg #[.string ⟨#[]⟩, .string ⟨#[]⟩]) 2 32 Tryz.underlying23 hi hz0 hz1 hz2 rfl (by decide) _ _ _ rfl ((hown3.alloc _).alloc _) ⟨w3.heap.size + 1, 0, none⟩ 1 1 [.string x, .string y] rfl rfl ?c1 ?c2 ?c3 ?c4 ?c5 ?_)
              case c1 =>
                intro j z h
                match j, h with
                | 0, h => simp at h; subst h; simp [Addr.add]
                | 1, h => simp at h; subst h; simp [Addr.add]
              case c2 => intro z hx; simp at hx; rcases hx with rfl | rfl <;> rfl
              case c3 => unfold maxLen; omega
              case c4 => omega
              case c5 => simp; omega
              · intro v' w4 hown' hgrow _
                have hB : Below w.heap.size w w4 := ((hw3.alloc (by omega) _).alloc (by simp; omega) _).grown hgrow (by simp; omega) (fun b hb => (((hown3.alloc (.cells #[.string x, .string y] 47)).alloc (.cells #[.string x, .string y] 47)).lt b hb).1)
                have hown4 : w4.ownsRow w.heap.size 47 2 v' (ps ++ [(x.data.toList, y.data.toList)]).length (flds (ps ++ [(x.data.toList, y.data.toList)])) := by
                  rw [← flds_snoc, List.length_append]; exact hown'
                clear hown' hgrow hown3 hw3
                go_wp2_with fail
                go_roundw
                case rel => exact ⟨b, ps ++ [(x.data.toList, y.data.toList)], rfl, HR.out, by omega, by simp; omega, hown4, hB⟩
                case measure => simp [lenV]; omega
            · have hcb : (c != 0) = true := by simpa using hc0
              have HC0 : Hid (c ≠ 0) := hc0
              have HR : Hid (parS s.data.toList [] = ([], [], c)) := by
                show _ = _
                rw [← HPAR.out, par_bad _ _ k HIX.out hk0 hnl (by rw [← HA.out, hrd]; exact hc0), ← HA.out, hrd]
              clear has hrd h2 hnl hc0
              go_wp2_with fail
              refine (cutLine_yes r a b 1100 k HIX.out hk2 HA.out HB.out m _ HMr.out (by omega)).mono ?_
              rintro e w1 ⟨rfl, nd, rfl⟩
              have hw1 := hw.trans (drewN_below w.heap.size wr nd)
              have HM1 : Hid ((wr.drewN nd).cell? ⟨0, 0, none⟩ = some (.int .i64 m)) := cell_keep hw1 HM.out
              clear hown
              go_wp2_with fail
              refine (readField_at a x y c HRD.out m _ HM1.out has2).mono ?_
              rintro e w3 ⟨rfl, hb3⟩
              have hw3 := hw1.trans (hb3.mono hw1.size)
              have hsz3 := hw3.size
              clear hb3
              go_wp2_with fail
              go_ret3
              refine ⟨.slice none 0 0, ret_three ?_ (by rw [HR.out]), by rw [HR.out]; exact World.ownsRow_nil _ _ _ _, hw3.alloc hsz3 _⟩
              unfold parN; rw [HR.out, if_neg HC0.out]
end Go.Proofs.YtipfjpihciiikabGreatDoor

/-
  What Print, Parse and Check of package field compute, each over what its plain function gives.
-/
namespace Go.Proofs.YtipfjpihciiikabGreatDoor
open Go.RowKit

theorem print_at (t : ByteArray) (c : Int) (v : Value) (ls : List Fld) (h : prtS ls = (t.data.toList, c)) (w : World) (hf : Fl w v ls) (hm : Most maxLen ls) :
    Calls Tryz.prog 18 #[v] w fun e w' => e = .returned (.tuple #[.string t, .int .i64 c]) ∧ Below w.heap.size w w' := by
  have := print_any v ls w hf hm
  rw [h] at this
  exact this
theorem parse_at (s : ByteArray) (fs : List Fld) (rest : List UInt8) (c n : Int) (h : parS s.data.toList [] = (fs, rest, c)) (hn : parN s.data.toList = n) (m : Int) (w : World) (hm : w.cell? ⟨0, 0, none⟩ = some (.int .i64 m)) (hs : s.size < 4294967281) :
    Calls Tryz.prog 24 #[.string s] w fun e w' => ∃ v, e = .returned (.tuple #[v, .int .i64 n, .int .i64 c]) ∧
      w'.ownsRow w.heap.size 47 2 v fs.length (flds fs) ∧ Below w.heap.size w w' := by
  have := parse_any s m w hm hs
  rw [h, hn] at this
  exact this
theorem check_at (c : Int) (v : Value) (ls : List Fld) (h : chk ls = c) (w : World) (hf : Fl w v ls) (hm : Most maxLen ls) :
    Calls Tryz.prog 27 #[v] w fun e w' => e = .returned (.int .i64 c) ∧ Below w.heap.size w w' := by
  rw [← h]; exact check_any v ls w hf hm
/-- A list of one field without name and value, just made. -/
theorem Fl.zero (w : World) (t : TypeId) : Fl (w.alloc (.cells #[.string ⟨#[]⟩, .string ⟨#[]⟩] t)) (.slice (some ⟨w.heap.size, 0, none⟩) 1 1) [([], [])] := by
  refine ⟨some ⟨w.heap.size, 0, none⟩, 1, rfl, Nat.le_refl _, by unfold maxLen; omega, fun _ => ⟨w.heap.size, 0, rfl, by simp, fun k hk => ?_⟩⟩
  obtain rfl : k = 0 := by simpa using hk
  exact ⟨by simp, by simp⟩
theorem Most.zero : Most maxLen [([], [])] := by
  intro x hx
  rw [List.mem_singleton.1 hx]
  exact ⟨Nat.zero_le _, Nat.zero_le _⟩
theorem chk_zero1 : chk [([], [])] = 3 := rfl
end Go.Proofs.YtipfjpihciiikabGreatDoor

/-
  New blocks lie above all that was there; no program is named here.
-/
namespace Go.Proofs.YtipfjpihciiikabGreatDoor
open Go.RowKit

theorem below_alloc (w : World) (o : Obj) : Below w.heap.size w (w.alloc o) := (Below.refl _ w).alloc (Nat.le_refl _) o
theorem below_alloc2 (w : World) (o o' : Obj) : Below w.heap.size w ((w.alloc o).alloc o') := (below_alloc w o).alloc (by simp) o'
theorem below_new {w w1 : World} {o : Obj} (h : Below (w.alloc o).heap.size (w.alloc o) w1) : Below w.heap.size w w1 := (below_alloc w o).trans (h.mono (by simp))
theorem below_new2 {w w1 : World} {o o' : Obj} (h : Below ((w.alloc o).alloc o').heap.size ((w.alloc o).alloc o') w1) : Below w.heap.size w w1 := (below_alloc2 w o o').trans (h.mono (by simp; omega))
theorem new_cell {w w1 : World} {cs : Array Value} {t : TypeId} (h : Below (w.alloc (.cells cs t)).heap.size (w.alloc (.cells cs t)) w1) (j : Nat) : w1.cell? ⟨w.heap.size, j, none⟩ = cs[j]? :=
  (h.cell (p := ⟨w.heap.size, j, none⟩) (by simp)).trans (by simp)
theorem new_cell2 {w w1 : World} {cs ds : Array Value} {t u : TypeId} (h : Below ((w.alloc (.cells cs t)).alloc (.cells ds u)).heap.size ((w.alloc (.cells cs t)).alloc (.cells ds u)) w1) (j : Nat) : w1.cell? ⟨w.heap.size, j, none⟩ = cs[j]? ∧ w1.cell? ⟨w.heap.size + 1, j, none⟩ = ds[j]? :=
  ⟨(h.cell (p := ⟨w.heap.size, j, none⟩) (by simp; omega)).trans (by simp), (h.cell (p := ⟨w.heap.size + 1, j, none⟩) (by simp)).trans (by simp)⟩
/-- A block of four cells, all of them written anew. -/
def set4 (w : World) (g : Nat) (a b c d : Value) : World := (((w.setCell ⟨g, 0, none⟩ a).setCell ⟨g, 1, none⟩ b).setCell ⟨g, 2, none⟩ c).setCell ⟨g, 3, none⟩ d
theorem set4_own {w : World} {g : Nat} {t : TypeId} {p q r s a b c d : Value} (h : w.heap[g]? = some (.cells #[p, q, r, s] t (0, 0))) : (set4 w g a b c d).heap[g]? = some (.cells #[a, b, c, d] t (0, 0)) := by
  unfold set4
  have h1 := heap_setCell_same w g 0 _ t a h
  have h2 := heap_setCell_same _ g 1 _ t b h1
  have h3 := heap_setCell_same _ g 2 _ t c h2
  exact heap_setCell_same _ g 3 _ t d h3
theorem set4_other {w : World} {g k : Nat} {a b c d : Value} (h : k ≠ g) : (set4 w g a b c d).heap[k]? = w.heap[k]? := by
  unfold set4
  rw [heap_setCell_other _ _ _ _ h, heap_setCell_other _ _ _ _ h, heap_setCell_other _ _ _ _ h, heap_setCell_other _ _ _ _ h]
theorem set4_below {B : Nat} {w0 w : World} {g : Nat} (a b c d : Value) (hb : Below B w0 w) (hg : B ≤ g) : Below B w0 (set4 w g a b c d) := (((hb.setCell hg a).setCell hg b).setCell hg c).setCell hg d
theorem set4_cell {w : World} {g : Nat} {t : TypeId} {p q r s a b c d : Value} (h : w.heap[g]? = some (.cells #[p, q, r, s] t (0, 0))) (j : Nat) : (set4 w g a b c d).cell? ⟨g, j, none⟩ = #[a, b, c, d][j]? := by
  simp [World.cell?, set4_own h]
end Go.Proofs.YtipfjpihciiikabGreatDoor

/-
  What writeBody and writeRest of package msg compute; the listed variables that the library reads hold what their text lays.
-/
namespace Go.Proofs.YtipfjpihciiikabGreatDoor
open Go.RowKit

set_option maxHeartbeats 1000000 in
set_option maxRecDepth 100000 in
theorem wbody_at (k n : Int) (hk : k = 1 ∨ k = 2 ∨ k = 3 ∨ k = 4) (b t : ByteArray) (c : Int) (h : wbS k n b.data.toList = (t.data.toList, c)) (w : World) (hT : HTab w) :
    Calls Tryz.prog 20 #[.int .i64 k, .int .i64 n, .string b] w fun e w' => e = .returned (.tuple #[.string t, .int .i64 c]) ∧ Below w.heap.size w w' := by
  have HT : Hid (HTab w) := hT
  clear hT
  have same : ∀ k : Int, k ≠ 3 → k ≠ 4 → (b.size : Int) = n → wbS k n b.data.toList = (b.data.toList, 0) := by
    intro k h3 h4 hn
    unfold wbS
    rw [if_neg h3, if_neg (fun x => h4 x.1), if_neg (fun x => x.2 (by rw [size_list]; exact hn))]
  have diff : ∀ k : Int, k ≠ 3 → k ≠ 4 → (b.size : Int) ≠ n → wbS k n b.data.toList = ([], 10) := by
    intro k h3 h4 hn
    unfold wbS
    rw [if_neg h3, if_neg (fun x => h4 x.1), if_pos ⟨h4, by rw [size_list]; exact hn⟩]
  have emp : ∀ x : Int, ([], x) = (t.data.toList, c) → t = ⟨#[]⟩ ∧ c = x := by
    intro x hx
    simp only [Prod.mk.injEq] at hx
    exact ⟨by apply ByteArray.ext; apply Array.ext'; exact hx.1.symm, hx.2.symm⟩
  have full : (b.data.toList, (0 : Int)) = (t.data.toList, c) → t = b ∧ c = 0 := by
    intro hx
    simp only [Prod.mk.injEq] at hx
    exact ⟨by apply ByteArray.ext; apply Array.ext'; exact hx.1.symm, hx.2.symm⟩
  rcases hk with rfl | rfl | rfl | rfl
  · by_cases hn : (b.size : Int) = n
    · rw [same 1 (by decide) (by decide) hn] at h
      obtain ⟨rfl, rfl⟩ := full h
      have hb : ((t.size : Int) != n) = false := by rw [hn]; simp
      clear same diff emp full h hn
      go_enter Tryz.func20, Tryz.ntmps20
      go_wp2_with fail
      go_ret2
      exact ⟨rfl, Below.refl _ _⟩
    · rw [diff 1 (by decide) (by decide) hn] at h
      obtain ⟨rfl, rfl⟩ := emp _ h
      have hb : ((b.size : Int) != n) = true := by simpa using hn
      clear same diff emp full h hn
      go_enter Tryz.func20, Tryz.ntmps20
      go_wp2_with fail
      go_ret2
      exact ⟨rfl, Below.refl _ _⟩
  · by_cases hn : (b.size : Int) = n
    · rw [same 2 (by decide) (by decide) hn] at h
      obtain ⟨rfl, rfl⟩ := full h
      have hb : ((t.size : Int) != n) = false := by rw [hn]; simp
      clear same diff emp full h hn
      go_enter Tryz.func20, Tryz.ntmps20
      go_wp2_with fail
      go_ret2
      exact ⟨rfl, Below.refl _ _⟩
    · rw [diff 2 (by decide) (by decide) hn] at h
      obtain ⟨rfl, rfl⟩ := emp _ h
      have hb : ((b.size : Int) != n) = true := by simpa using hn
      clear same diff emp full h hn
      go_enter Tryz.func20, Tryz.ntmps20
      go_wp2_with fail
      go_ret2
      exact ⟨rfl, Below.refl _ _⟩
  · have HE : Hid (encE b.data.toList 64 = (t.data.toList, c)) := h
    clear same diff emp full h
    go_enter Tryz.func20, Tryz.ntmps20
    go_wp2_with fail
    refine (encode_at b t 64 c HE.out (by decide) _ HT.out).mono ?_
    rintro e w1 ⟨rfl, hb1⟩
    go_wp2_with fail
    go_ret2
    exact ⟨rfl, hb1⟩
  · by_cases hl : 5000 < b.size
    · have h' : (([], 2) : List UInt8 × Int) = (t.data.toList, c) := by
        rw [← h]; unfold wbS; rw [if_neg (by decide), if_pos ⟨rfl, by rw [size_list]; exact hl⟩]
      obtain ⟨rfl, rfl⟩ := emp _ h'
      have hb : (5000 : Int) < (b.size : Int) := by omega
      clear same diff emp full h h' hl
      go_enter Tryz.func20, Tryz.ntmps20
      go_wp2_with fail
      go_ret2
      exact ⟨rfl, Below.refl _ _⟩
    · have h' : (b.data.toList, (0 : Int)) = (t.data.toList, c) := by
        rw [← h]; unfold wbS; rw [if_neg (by decide), if_neg (fun x => hl (by have := x.2; rw [size_list] at this; exact this)), if_neg (fun x => x.1 rfl)]
      obtain ⟨rfl, rfl⟩ := full h'
      have hb : ¬ (5000 : Int) < (t.size : Int) := by omega
      clear same diff emp full h h' hl
      go_enter Tryz.func20, Tryz.ntmps20
      go_wp2_with fail
      go_ret2
      exact ⟨rfl, Below.refl _ _⟩
set_option maxHeartbeats 2000000 in
set_option maxRecDepth 100000 in
theorem wrest_at (req : Bool) (m : ByteArray) (code : Int) (v : Value) (ls : List Fld) (b t : ByteArray) (c : Int) (h : wrB (kd req m.data.toList code) ls b.data.toList = (t.data.toList, c)) (w : World) (hf : Fl w v ls) (hm : Most maxLen ls) (hS : STabs w) (hT : HTab w) :
    Calls Tryz.prog 12 #[.agg #[.bool req, .string m, .int .i64 code], v, .string b] w fun e w' => e = .returned (.tuple #[.string t, .int .i64 c]) ∧ Below w.heap.size w w' := by
  have HF : Hid (Fl w v ls) := hf
  have HM : Hid (Most maxLen ls) := hm
  have HS : Hid (STabs w) := hS
  have HT : Hid (HTab w) := hT
  clear hf hm hS hT
  obtain ⟨p, d, hp⟩ : ∃ (p : ByteArray) (d : Int), prtS ls = (p.data.toList, d) := ⟨⟨(prtS ls).1.toArray⟩, (prtS ls).2, rfl⟩
  have HP : Hid (prtS ls = (p.data.toList, d)) := hp
  have emp : ∀ x : Int, ([], x) = (t.data.toList, c) → t = ⟨#[]⟩ ∧ c = x := by
    intro x hx
    simp only [Prod.mk.injEq] at hx
    exact ⟨by apply ByteArray.ext; apply Array.ext'; exact hx.1.symm, hx.2.symm⟩
  by_cases hc : chk ls = 0
  · rw [prtS_ok ls hc, Prod.mk.injEq] at hp
    obtain ⟨hpl, rfl⟩ := hp
    have HB : Hid (bulkF ls ≤ 1048576) := bulk_chk ls hc
    obtain ⟨x, y, z, hk⟩ : ∃ x y z, kd req m.data.toList code ls = (x, y, z) := ⟨_, _, _, rfl⟩
    have HK : Hid (kd req m.data.toList code ls = (x, y, z)) := hk
    by_cases hz : z = 0
    · subst hz
      have hsh : x = 1 ∨ x = 2 ∨ x = 3 ∨ x = 4 := by
        rcases kd_ok req m.data.toList code ls with ⟨e, h1, h2⟩ | h1 | h1 | h1 | ⟨n, h1, _⟩
        · rw [hk] at h1; simp only [Prod.mk.injEq] at h1; exact absurd h1.2.2.symm h2
        · rw [hk] at h1; simp only [Prod.mk.injEq] at h1; exact .inl h1.1
        · rw [hk] at h1; simp only [Prod.mk.injEq] at h1; exact .inr (.inr (.inl h1.1))
        · rw [hk] at h1; simp only [Prod.mk.injEq] at h1; exact .inr (.inr (.inr h1.1))
        · rw [hk] at h1; simp only [Prod.mk.injEq] at h1; exact .inr (.inl h1.1)
      have hw := wrB_wb (kd_ok req m.data.toList code) b.data.toList hc (by rw [hk])
      rw [h, hk] at hw
      simp only at hw
      obtain ⟨u, f, hu⟩ : ∃ (u : ByteArray) (f : Int), wbS x y b.data.toList = (u.data.toList, f) := ⟨⟨(wbS x y b.data.toList).1.toArray⟩, _, rfl⟩
      rw [hu] at hw
      have HU : Hid (wbS x y b.data.toList = (u.data.toList, f)) := hu
      have HSH : Hid (x = 1 ∨ x = 2 ∨ x = 3 ∨ x = 4) := hsh
      by_cases hf0 : f = 0
      · subst hf0
        rw [if_neg (by simp), Prod.mk.injEq] at hw
        obtain ⟨hw1, rfl⟩ := hw
        have ht : t = p ++ u := by
          apply ByteArray.ext; apply Array.ext'
          rw [ByteArray.data_append, Array.toList_append, ← hpl]
          exact hw1
        have HTT : Hid (t = p ++ u) := ht
        have hps : p.size ≤ 31022 := by
          rw [← size_list, ← hpl, List.length_append]
          have := prt_take_len ls hc ls.length
          rw [List.take_length] at this
          simp; omega
        have hus : u.size ≤ 45005 := by
          have h1 := wb_len (kd_ok req m.data.toList code) (b := b.data.toList) (ls := ls) (by rw [hk]) (by rw [hk]; simp only; rw [hu])
          rw [hk] at h1
          simp only at h1
          rw [hu, size_list] at h1
          exact h1
        clear h hc hk hsh hu emp hw1 ht hpl
        go_enter Tryz.func12, Tryz.ntmps12
        go_wp2_with fail
        refine (print_at p 0 v ls HP.out _ (HF.out.below (below_alloc _ _)) HM.out).mono ?_
        rintro e w1 ⟨rfl, hb0⟩
        have c0 : w1.cell? ⟨w.heap.size, 0, none⟩ = some (.bool req) := new_cell hb0 0
        have c1 : w1.cell? ⟨w.heap.size, 1, none⟩ = some (.string m) := new_cell hb0 1
        have c2 : w1.cell? ⟨w.heap.size, 2, none⟩ = some (.int .i64 code) := new_cell hb0 2
        have hb1 := below_new hb0
        clear hb0
        go_wp2_with fail
        refine (kindU_at req m code v ls x y 0 HK.out _ (HF.out.below hb1) HB.out (HS.out.below hb1)).mono ?_
        rintro e w2 ⟨rfl, hb2⟩
        have hw2 := hb1.trans (hb2.mono hb1.size)
        clear hb1 hb2
        go_wp2_with fail
        refine (wbody_at x y HSH.out b u 0 HU.out _ (HT.out.below hw2)).mono ?_
        rintro e w3 ⟨rfl, hb3⟩
        have hw3 := hw2.trans (hb3.mono hw2.size)
        clear hw2 hb3
        go_wp2_with fail
        go_ret2
        exact ⟨ret_se HTT.out.symm rfl, hw3⟩
      · rw [if_pos hf0] at hw
        obtain ⟨rfl, rfl⟩ := emp _ hw.symm
        have hfb : (c != 0) = true := by simpa using hf0
        clear h hc hk hsh hu emp hw hpl hf0
        go_enter Tryz.func12, Tryz.ntmps12
        go_wp2_with fail
        refine (print_at p 0 v ls HP.out _ (HF.out.below (below_alloc _ _)) HM.out).mono ?_
        rintro e w1 ⟨rfl, hb0⟩
        have c0 : w1.cell? ⟨w.heap.size, 0, none⟩ = some (.bool req) := new_cell hb0 0
        have c1 : w1.cell? ⟨w.heap.size, 1, none⟩ = some (.string m) := new_cell hb0 1
        have c2 : w1.cell? ⟨w.heap.size, 2, none⟩ = some (.int .i64 code) := new_cell hb0 2
        have hb1 := below_new hb0
        clear hb0
        go_wp2_with fail
        refine (kindU_at req m code v ls x y 0 HK.out _ (HF.out.below hb1) HB.out (HS.out.below hb1)).mono ?_
        rintro e w2 ⟨rfl, hb2⟩
        have hw2 := hb1.trans (hb2.mono hb1.size)
        clear hb1 hb2
        go_wp2_with fail
        refine (wbody_at x y HSH.out b u c HU.out _ (HT.out.below hw2)).mono ?_
        rintro e w3 ⟨rfl, hb3⟩
        have hw3 := hw2.trans (hb3.mono hw2.size)
        clear hw2 hb3
        go_wp2_with fail
        go_ret2
        exact ⟨rfl, hw3⟩
    · have hw := wrB_err (K := kd req m.data.toList code) b.data.toList hc (by rw [hk]; exact hz)
      rw [h, hk] at hw
      obtain ⟨rfl, rfl⟩ := emp _ hw.symm
      have hzb : (c != 0) = true := by simpa using hz
      clear h hc hk emp hw hpl hz
      go_enter Tryz.func12, Tryz.ntmps12
      go_wp2_with fail
      refine (print_at p 0 v ls HP.out _ (HF.out.below (below_alloc _ _)) HM.out).mono ?_
      rintro e w1 ⟨rfl, hb0⟩
      have c0 : w1.cell? ⟨w.heap.size, 0, none⟩ = some (.bool req) := new_cell hb0 0
      have c1 : w1.cell? ⟨w.heap.size, 1, none⟩ = some (.string m) := new_cell hb0 1
      have c2 : w1.cell? ⟨w.heap.size, 2, none⟩ = some (.int .i64 code) := new_cell hb0 2
      have hb1 := below_new hb0
      clear hb0
      go_wp2_with fail
      refine (kindU_at req m code v ls x y c HK.out _ (HF.out.below hb1) HB.out (HS.out.below hb1)).mono ?_
      rintro e w2 ⟨rfl, hb2⟩
      have hw2 := hb1.trans (hb2.mono hb1.size)
      clear hb1 hb2
      go_wp2_with fail
      go_ret2
      exact ⟨rfl, hw2⟩
  · have hw := wrB_bad (K := kd req m.data.toList code) b.data.toList hc
    rw [h] at hw
    obtain ⟨rfl, rfl⟩ := emp _ hw.symm
    rw [prtS_bad ls hc, Prod.mk.injEq] at hp
    obtain ⟨hp1, rfl⟩ := hp
    have hcb : (chk ls != 0) = true := by simpa using hc
    obtain ⟨q, hq⟩ : ∃ q, q = chk ls := ⟨_, rfl⟩
    rw [← hq] at hcb HP ⊢
    clear h hc emp hw hp1 hq
    go_enter Tryz.func12, Tryz.ntmps12
    go_wp2_with fail
    refine (print_at p q v ls HP.out _ (HF.out.below (below_alloc _ _)) HM.out).mono ?_
    rintro e w1 ⟨rfl, hb0⟩
    have c0 : w1.cell? ⟨w.heap.size, 0, none⟩ = some (.bool req) := new_cell hb0 0
    have c1 : w1.cell? ⟨w.heap.size, 1, none⟩ = some (.string m) := new_cell hb0 1
    have c2 : w1.cell? ⟨w.heap.size, 2, none⟩ = some (.int .i64 code) := new_cell hb0 2
    have hb1 := below_new hb0
    clear hb0
    go_wp2_with fail
    go_ret2
    exact ⟨rfl, hb1⟩
end Go.Proofs.YtipfjpihciiikabGreatDoor

/-
  What isMethod, isTarget, PrintRequest, readRequest and ParseRequest of package line compute; a text that is parsed has less than 2^32 - 15 bytes (or its line ends early), and the package variable that the library reads holds some number.
-/
namespace Go.Proofs.YtipfjpihciiikabGreatDoor
open Go.RowKit

set_option maxRecDepth 100000 in
theorem isMethod_any (s : ByteArray) (w : World) (hs : s.size ≤ maxLen) :
    Calls Tryz.prog 16 #[.string s] w fun e w' => e = .returned (.bool (meth s.data.toList)) ∧ w' = w := by
  have HS : Hid (s.size ≤ maxLen) := hs
  clear hs
  cases ht : token s.data.toList
  · have HT : Hid (token s.data.toList = false) := ht
    clear ht
    go_enter Tryz.func16, Tryz.ntmps16
    go_wp2_with fail
    refine (isToken_any _ _ HS.out).mono ?_
    rintro e w' ⟨rfl, rfl⟩
    rw [HT.out]
    go_wp2_with fail
    go_ret
    refine ⟨ret_bool ?_, rfl⟩
    unfold meth; rw [HT.out, Bool.false_and]
  · have HT : Hid (token s.data.toList = true) := ht
    clear ht
    go_enter Tryz.func16, Tryz.ntmps16
    go_wp2_with fail
    refine (isToken_any _ _ HS.out).mono ?_
    rintro e w' ⟨rfl, rfl⟩
    rw [HT.out]
    go_wp2_with fail
    go_ret
    refine ⟨ret_bool ?_, rfl⟩
    unfold meth; rw [HT.out, Bool.true_and, size_list, decide_eq_decide]; omega

theorem isTgt_yes (c : UInt8) (h1 : 33 ≤ (c.toNat : Int)) (h2 : (c.toNat : Int) ≤ 126) : isTgt c = true := by
  unfold isTgt; simp [UInt8.le_iff_toNat_le]; omega
theorem isTgt_no (c : UInt8) (h : (c.toNat : Int) < 33 ∨ 126 < (c.toNat : Int)) : isTgt c = false := by
  unfold isTgt; rw [Bool.eq_false_iff]; simp [UInt8.le_iff_toNat_le]; omega

set_option maxHeartbeats 400000 in
set_option maxRecDepth 100000 in
theorem isTarget_any (s : ByteArray) (w : World) (hs : s.size ≤ maxLen) :
    Calls Tryz.prog 17 #[.string s] w fun e w' => e = .returned (.bool (targ s.data.toList)) ∧ w' = w := by
  unfold maxLen at hs
  go_enter Tryz.func17, Tryz.ntmps17
  go_wp2_with fail
  go_loop [6] (fun i => ∃ k : Nat, k ≤ s.size ∧ i = .int .i64 k ∧ (s.data.toList.take k).all isTgt = true) (fun i => s.size - (intOf i).toNat)
  case atStart => exact ⟨0, Nat.zero_le _, rfl, rfl⟩
  case round =>
    obtain ⟨k, hk, rfl, hall⟩ := hrel
    have HA : Hid ((s.data.toList.take k).all isTgt = true) := hall
    clear hall
    by_cases hlt : k < s.size
    · rcases (show (s[k].toNat : Int) < 33 ∨ (33 ≤ (s[k].toNat : Int) ∧ (s[k].toNat : Int) ≤ 126) ∨ 126 < (s[k].toNat : Int) from by omega) with h | ⟨h, h'⟩ | h
      · have HT : Hid (isTgt s[k] = false) := isTgt_no _ (.inl h)
        go_wp2_with fail
        go_ret
        refine ⟨ret_bool ?_, rfl⟩
        rw [targ, all_false s isTgt k hlt HT.out, Bool.false_and]
      · have HT : Hid (isTgt s[k] = true) := isTgt_yes _ h h'
        go_wp2_with fail
        go_round
        case rel => exact ⟨k + 1, by omega, by go_num, by rw [take_snoc s k hlt, List.all_append, HA.out]; simp [HT.out]⟩
        case measure => simp [intOf]; omega
      · have HT : Hid (isTgt s[k] = false) := isTgt_no _ (.inr h)
        have h' : ¬ (s[k].toNat : Int) < 33 := by omega
        go_wp2_with fail
        go_ret
        refine ⟨ret_bool ?_, rfl⟩
        rw [targ, all_false s isTgt k hlt HT.out, Bool.false_and]
    · obtain rfl : k = s.size := by omega
      have h := HA.out
      rw [take_all] at h
      have HB : Hid (s.data.toList.all isTgt = true) := h
      clear h
      cases hem : s.toList.isEmpty
      · have HE : Hid (s.data.toList.isEmpty = false) := by rw [ByteArray.toList_eq] at hem; exact hem
        go_wp2_with fail
        go_ret
        refine ⟨ret_bool ?_, rfl⟩
        rw [targ, HB.out, HE.out, Bool.true_and, size_list, Bool.not_false, Bool.true_and, decide_eq_decide]; omega
      · have HE : Hid (s.data.toList.isEmpty = true) := by rw [ByteArray.toList_eq] at hem; exact hem
        go_wp2_with fail
        go_ret
        refine ⟨ret_bool ?_, rfl⟩
        rw [targ, HB.out, HE.out]; rfl

theorem ret_sv {a b : ByteArray} {v : Value} (h : a = b) : Ending.returned (.tuple #[.string a, v]) = .returned (.tuple #[.string b, v]) := by rw [h]

set_option maxHeartbeats 1000000 in
set_option maxRecDepth 100000 in
theorem printR_at (m t x : ByteArray) (c : Int) (h : prR m.data.toList t.data.toList = (x.data.toList, c)) (w : World) (hm : m.size ≤ maxLen) (ht : t.size ≤ maxLen) :
    Calls Tryz.prog 11 #[.string m, .string t] w fun e w' => e = .returned (.tuple #[.string x, .int .i64 c]) ∧ w' = w := by
  have HS : Hid (m.size ≤ maxLen) := hm
  have HT : Hid (t.size ≤ maxLen) := ht
  clear hm ht
  cases h1 : meth m.data.toList
  · rw [prR_no _ _ (by rw [h1]; rfl)] at h
    simp only [Prod.mk.injEq] at h
    obtain ⟨h2, rfl⟩ := h
    obtain rfl : (⟨#[]⟩ : ByteArray) = x := mk_self x [] h2.symm
    have H1 : Hid (meth m.data.toList = false) := h1
    clear h1 h2
    go_enter Tryz.func11, Tryz.ntmps11
    go_wp2_with fail
    refine (isMethod_any _ _ HS.out).mono ?_
    rintro e w' ⟨rfl, rfl⟩
    rw [H1.out]
    go_wp2_with fail
    go_ret2
    exact ⟨rfl, rfl⟩
  · have H1 : Hid (meth m.data.toList = true) := h1
    have hms : m.size ≤ 30 := by rw [← size_list]; exact (meth_is _ h1).2
    cases h2 : targ t.data.toList
    · rw [prR_no _ _ (by rw [h1, h2]; rfl)] at h
      simp only [Prod.mk.injEq] at h
      obtain ⟨h3, rfl⟩ := h
      obtain rfl : (⟨#[]⟩ : ByteArray) = x := mk_self x [] h3.symm
      have H2 : Hid (targ t.data.toList = false) := h2
      clear h1 h2 h3
      go_enter Tryz.func11, Tryz.ntmps11
      go_wp2_with fail
      refine (isMethod_any _ _ HS.out).mono ?_
      rintro e w' ⟨rfl, rfl⟩
      rw [H1.out]
      go_wp2_with fail
      refine (isTarget_any _ _ HT.out).mono ?_
      rintro e w' ⟨rfl, rfl⟩
      rw [H2.out]
      go_wp2_with fail
      go_ret2
      exact ⟨rfl, rfl⟩
    · have H2 : Hid (targ t.data.toList = true) := h2
      have hts : t.size ≤ 200 := by rw [← size_list]; exact (targ_is _ h2).2.2
      rw [prR_ok _ _ h1 h2] at h
      simp only [Prod.mk.injEq] at h
      obtain ⟨h3, rfl⟩ := h
      have HX : Hid (reqB m.data.toList t.data.toList ++ [13, 10] = x.data.toList) := h3
      clear h1 h2 h3
      go_enter Tryz.func11, Tryz.ntmps11
      go_wp2_with fail
      refine (isMethod_any _ _ HS.out).mono ?_
      rintro e w' ⟨rfl, rfl⟩
      rw [H1.out]
      go_wp2_with fail
      refine (isTarget_any _ _ HT.out).mono ?_
      rintro e w' ⟨rfl, rfl⟩
      rw [H2.out]
      go_wp2_with fail
      go_ret2
      refine ⟨ret_sv ?_, rfl⟩
      apply ByteArray.ext; apply Array.ext'
      rw [← HX.out]
      simp [reqB, verB]
end Go.Proofs.YtipfjpihciiikabGreatDoor

/-
  What WriteRequest of package msg computes; the listed variables that the library reads hold what their text lays.
-/
namespace Go.Proofs.YtipfjpihciiikabGreatDoor
open Go.RowKit

abbrev KQ (m : List UInt8) : Kd := kd true m 0
def reqV (m t : ByteArray) (v : Value) (b : ByteArray) : Value := .agg #[.string m, .string t, v, .string b]
set_option maxHeartbeats 2000000 in
set_option maxRecDepth 100000 in
theorem writeQ_at (m t : ByteArray) (v : Value) (ls : List Fld) (b x : ByteArray) (c : Int) (h : wrQ (KQ m.data.toList) m.data.toList t.data.toList ls b.data.toList = (x.data.toList, c)) (w : World) (hf : Fl w v ls) (hm : Most maxLen ls) (hS : STabs w) (hT : HTab w) (z1 : m.size ≤ maxLen) (z2 : t.size ≤ maxLen) :
    Calls Tryz.prog 7 #[.agg #[.string m, .string t, v, .string b]] w fun e w' => e = .returned (.tuple #[.string x, .int .i64 c]) ∧ Below w.heap.size w w' := by
  have HF : Hid (Fl w v ls) := hf
  have HM : Hid (Most maxLen ls) := hm
  have HS : Hid (STabs w) := hS
  have HT : Hid (HTab w) := hT
  have H1 : Hid (m.size ≤ maxLen) := z1
  have H2 : Hid (t.size ≤ maxLen) := z2
  clear hf hm hS hT z1 z2
  obtain ⟨p, d, hp⟩ : ∃ (p : ByteArray) (d : Int), prR m.data.toList t.data.toList = (p.data.toList, d) := ⟨⟨(prR m.data.toList t.data.toList).1.toArray⟩, _, rfl⟩
  have HP : Hid (prR m.data.toList t.data.toList = (p.data.toList, d)) := hp
  obtain ⟨u, f, hu⟩ : ∃ (u : ByteArray) (f : Int), wrB (KQ m.data.toList) ls b.data.toList = (u.data.toList, f) := ⟨⟨(wrB (KQ m.data.toList) ls b.data.toList).1.toArray⟩, _, rfl⟩
  have HU : Hid (wrB (KQ m.data.toList) ls b.data.toList = (u.data.toList, f)) := hu
  have emp : ∀ y : Int, ([], y) = (x.data.toList, c) → x = ⟨#[]⟩ ∧ c = y := by
    intro y hx
    simp only [Prod.mk.injEq] at hx
    exact ⟨by apply ByteArray.ext; apply Array.ext'; exact hx.1.symm, hx.2.symm⟩
  unfold wrQ at h
  rw [hp, hu] at h
  simp only at h
  by_cases hd : d = 0
  · subst hd
    rw [if_neg (by simp)] at h
    by_cases hf0 : f = 0
    · subst hf0
      rw [if_neg (by simp), Prod.mk.injEq] at h
      obtain ⟨hx, rfl⟩ := h
      have HX : Hid (p ++ u = x) := by
        show _ = _
        apply ByteArray.ext; apply Array.ext'
        rw [ByteArray.data_append, Array.toList_append]
        exact hx
      have hus : u.size ≤ 76027 := by rw [← size_list]; exact wrB_len (kd_ok true m.data.toList 0) hu
      have hps : p.size ≤ 242 := by
        cases hok : meth m.data.toList && targ t.data.toList
        · rw [prR_no _ _ hok] at hp; simp at hp
        · rw [Bool.and_eq_true] at hok
          rw [prR_ok _ _ hok.1 hok.2, Prod.mk.injEq] at hp
          rw [← size_list, ← hp.1, List.length_append]
          have := (reqB_le _ _ hok.1 hok.2).1
          simp; omega
      clear hp hu emp hx
      go_enter Tryz.func7, Tryz.ntmps7
      go_wp2_with fail
      refine (printR_at m t p 0 HP.out _ H1.out H2.out).mono ?_
      rintro e w1 ⟨rfl, rfl⟩
      go_wp2_with fail
      refine (wrest_at true m 0 v ls b u 0 HU.out _ (HF.out.below (below_alloc _ _)) HM.out (HS.out.below (below_alloc _ _)) (HT.out.below (below_alloc _ _))).mono ?_
      rintro e w2 ⟨rfl, hb0⟩
      have hb2 := below_new hb0
      clear hb0
      go_wp2_with fail
      go_ret2
      exact ⟨ret_se HX.out rfl, hb2⟩
    · rw [if_pos hf0] at h
      obtain ⟨rfl, rfl⟩ := emp _ h
      have hfb : (c != 0) = true := by simpa using hf0
      clear hp hu emp h hf0
      go_enter Tryz.func7, Tryz.ntmps7
      go_wp2_with fail
      refine (printR_at m t p 0 HP.out _ H1.out H2.out).mono ?_
      rintro e w1 ⟨rfl, rfl⟩
      go_wp2_with fail
      refine (wrest_at true m 0 v ls b u c HU.out _ (HF.out.below (below_alloc _ _)) HM.out (HS.out.below (below_alloc _ _)) (HT.out.below (below_alloc _ _))).mono ?_
      rintro e w2 ⟨rfl, hb0⟩
      have hb2 := below_new hb0
      clear hb0
      go_wp2_with fail
      go_ret2
      exact ⟨rfl, hb2⟩
  · rw [if_pos hd] at h
    obtain ⟨rfl, rfl⟩ := emp _ h
    have hdb : (c != 0) = true := by simpa using hd
    clear hp hu HU emp h hd
    go_enter Tryz.func7, Tryz.ntmps7
    go_wp2_with fail
    refine (printR_at m t p c HP.out _ H1.out H2.out).mono ?_
    rintro e w1 ⟨rfl, rfl⟩
    go_wp2_with fail
    go_ret2
    exact ⟨rfl, below_alloc _ _⟩
end Go.Proofs.YtipfjpihciiikabGreatDoor

/-
  What hexDigit of package body computes, and the functions that takeNumber, takeExtra, endNumber, takeBytes and takeFields hand back: what they hold of what came.
-/
namespace Go.Proofs.YtipfjpihciiikabGreatDoor
open Go.RowKit

theorem ret_ib {a b : Int} {c d : Bool} (h : a = b) (h' : c = d) : Ending.returned (.tuple #[.int .i64 a, .bool c]) = .returned (.tuple #[.int .i64 b, .bool d]) := by rw [h, h']
set_option maxHeartbeats 1000000 in
set_option maxRecDepth 100000 in
theorem hexDigit_any (c : UInt8) (w : World) :
    Calls Tryz.prog 90 #[.int .u8 (c.toNat : Int)] w fun e w' => e = .returned (.tuple #[.int .i64 (((hv c).getD 0 : Nat) : Int), .bool (hv c).isSome]) ∧ w' = w := by
  have hc : c.toNat < 256 := c.toNat_lt
  rcases (show (48 ≤ (c.toNat : Int) ∧ (c.toNat : Int) ≤ 57) ∨ (97 ≤ (c.toNat : Int) ∧ (c.toNat : Int) ≤ 102) ∨ (65 ≤ (c.toNat : Int) ∧ (c.toNat : Int) ≤ 70) ∨ ((c.toNat : Int) < 48 ∨ (57 < (c.toNat : Int) ∧ (c.toNat : Int) < 65) ∨ (70 < (c.toNat : Int) ∧ (c.toNat : Int) < 97) ∨ 102 < (c.toNat : Int)) by omega) with ⟨h1, h2⟩ | ⟨h1, h2⟩ | ⟨h1, h2⟩ | h
  · have HV : Hid (hv c = some (c.toNat - 48)) := by show _ = _; unfold hv; rw [if_pos (by omega)]
    go_enter Tryz.func90, Tryz.ntmps90
    go_wp2
    all_goals
      go_ret2
      refine ⟨ret_ib ?_ (by rw [HV.out]; rfl), rfl⟩
      rw [HV.out]; simp; try omega
  · have HV : Hid (hv c = some (c.toNat - 87)) := by show _ = _; unfold hv; rw [if_neg (by omega), if_pos (by omega)]
    go_enter Tryz.func90, Tryz.ntmps90
    go_wp2
    all_goals
      go_ret2
      refine ⟨ret_ib ?_ (by rw [HV.out]; rfl), rfl⟩
      rw [HV.out]; simp; try omega
  · have HV : Hid (hv c = some (c.toNat - 55)) := by show _ = _; unfold hv; rw [if_neg (by omega), if_neg (by omega), if_pos (by omega)]
    go_enter Tryz.func90, Tryz.ntmps90
    go_wp2
    all_goals
      go_ret2
      refine ⟨ret_ib ?_ (by rw [HV.out]; rfl), rfl⟩
      rw [HV.out]; simp; try omega
  · have HV : Hid (hv c = none) := by show _ = _; unfold hv; rw [if_neg (by omega), if_neg (by omega), if_neg (by omega)]
    rcases h with h | ⟨h, h'⟩ | ⟨h, h'⟩ | h
    all_goals
      go_enter Tryz.func90, Tryz.ntmps90
      go_wp2
      all_goals
        go_ret2
        exact ⟨ret_ib (by rw [HV.out]; rfl) (by rw [HV.out]; rfl), rfl⟩
end Go.Proofs.YtipfjpihciiikabGreatDoor

/-
  How a Decoder of package body lies in memory: its cells, its two rows of bytes, and the function value that says what may come next.
-/
namespace Go.Proofs.YtipfjpihciiikabGreatDoor
open Go.RowKit

def u8s (l : List UInt8) : List Value := l.map fun c => .int .u8 (c.toNat : Int)
theorem u8s_len (l : List UInt8) : (u8s l).length = l.length := by simp [u8s]
theorem u8s_snoc (l : List UInt8) (c : UInt8) : u8s (l ++ [c]) = u8s l ++ [.int .u8 (c.toNat : Int)] := by simp [u8s]

/-- The cells that function values hold stay. -/
def KeepC (w w' : World) : Prop := ∀ (a : Nat) (v : Value) (t : TypeId), (t = 3 ∨ t = 9 ∨ t = 111) → w.heap[a]? = some (.cells #[v] t) → w'.heap[a]? = some (.cells #[v] t)
theorem KeepC.refl (w : World) : KeepC w w := fun _ _ _ _ h => h
theorem KeepC.trans {a b c : World} (h : KeepC a b) (k : KeepC b c) : KeepC a c := fun i v t ht hi => k i v t ht (h i v t ht hi)
theorem KeepC.below {w w' : World} (h : Below w.heap.size w w') : KeepC w w' := fun a _ _ _ hi => (h.block a (Array.getElem?_eq_some_iff.1 hi).1).trans hi
theorem KeepC.set {w : World} {bd : Nat} {cs : Array Value} (hb : w.heap[bd]? = some (.cells cs 114)) (i : Nat) (v : Value) : KeepC w (w.setCell ⟨bd, i, none⟩ v) := by
  intro a u t ht hi
  have hne : a ≠ bd := by
    rintro rfl
    rw [hb] at hi
    have h := Option.some.inj hi
    injection h with h1 h2
    rcases ht with h | h | h <;> rw [h] at h2 <;> exact absurd h2 (by decide)
  rw [Below.heap_setCell _ _ _ _ (fun e => hne e)]
  exact hi
theorem KeepC.grown {w w' : World} {row : Option Nat} (hg : w.grownBy w' row) (hrow : ∀ g, row = some g → ∃ c, w.heap[g]? = some (.cells c 5)) : KeepC w w' := by
  intro a u t ht hi
  rw [hg.block a (Array.getElem?_eq_some_iff.1 hi).1 ?_]
  · exact hi
  · intro h
    obtain ⟨c, hc⟩ := hrow a h.symm
    rw [hi] at hc
    have h := Option.some.inj hc
    injection h with h1 h2
    rcases ht with h | h | h <;> rw [h] at h2 <;> exact absurd h2 (by decide)
theorem own5 {w : World} {B n : Nat} {v : Value} {xs : List Value} (h : w.ownsRow B 5 1 v n xs) : ∀ g, v.ownBlock = some g → ∃ c, w.heap[g]? = some (.cells c 5) := by
  intro g hg
  rcases h.2 with ⟨rfl, _⟩ | ⟨g', cap, cur, rfl, _, hgg, _⟩
  · simp [Value.ownBlock] at hg
  · simp [Value.ownBlock] at hg
    subst hg
    exact ⟨cur, hgg⟩
theorem cellH {w : World} {a : Nat} {v : Value} {t : TypeId} (h : w.heap[a]? = some (.cells #[v] t)) : w.cell? ⟨a, 0, none⟩ = some v := by simp [World.cell?, h]

abbrev ptr (a : Nat) : Value := .pointer (some ⟨a, 0, none⟩)
/-- The function value takes what may come next. -/
def StepV (w : World) (f : Value) : St → Prop
  | .num d n => ∃ a b, f = .func (.func 89) #[] #[ptr a, ptr b] ∧ w.heap[a]? = some (.cells #[.int .i64 (d : Int)] 3) ∧ w.heap[b]? = some (.cells #[.int .i64 (n : Int)] 3)
  | .ext k n => ∃ a b, f = .func (.func 108) #[] #[ptr a, ptr b] ∧ w.heap[a]? = some (.cells #[.int .i64 (n : Int)] 3) ∧ w.heap[b]? = some (.cells #[.int .i64 (k : Int)] 3)
  | .endn n => ∃ a, f = .func (.func 109) #[] #[ptr a] ∧ w.heap[a]? = some (.cells #[.int .i64 (n : Int)] 3)
  | .byt n => ∃ a, f = .func (.func 124) #[] #[ptr a] ∧ w.heap[a]? = some (.cells #[.int .i64 (n : Int)] 3)
  | .crlf => ∃ a b c d, f = .func (.func 132) #[] #[ptr a, ptr b] ∧ w.heap[a]? = some (.cells #[.string ⟨#[13, 10]⟩] 9) ∧
      w.heap[b]? = some (.cells #[.func (.func 89) #[] #[ptr c, ptr d]] 111) ∧ w.heap[c]? = some (.cells #[.int .i64 0] 3) ∧ w.heap[d]? = some (.cells #[.int .i64 0] 3)
  | .lf => ∃ a b c d, f = .func (.func 132) #[] #[ptr a, ptr b] ∧ w.heap[a]? = some (.cells #[.string ⟨#[10]⟩] 9) ∧
      w.heap[b]? = some (.cells #[.func (.func 89) #[] #[ptr c, ptr d]] 111) ∧ w.heap[c]? = some (.cells #[.int .i64 0] 3) ∧ w.heap[d]? = some (.cells #[.int .i64 0] 3)
  | .fld k => ∃ a, f = .func (.func 122) #[] #[ptr a] ∧ w.heap[a]? = some (.cells #[.int .i64 (k : Int)] 3)
theorem StepV.keep {w w' : World} {f : Value} {st : St} (h : StepV w f st) (k : KeepC w w') : StepV w' f st := by
  cases st with
  | num d n => obtain ⟨a, b, h1, h2, h3⟩ := h; exact ⟨a, b, h1, k _ _ _ (.inl rfl) h2, k _ _ _ (.inl rfl) h3⟩
  | ext d n => obtain ⟨a, b, h1, h2, h3⟩ := h; exact ⟨a, b, h1, k _ _ _ (.inl rfl) h2, k _ _ _ (.inl rfl) h3⟩
  | endn n => obtain ⟨a, h1, h2⟩ := h; exact ⟨a, h1, k _ _ _ (.inl rfl) h2⟩
  | byt n => obtain ⟨a, h1, h2⟩ := h; exact ⟨a, h1, k _ _ _ (.inl rfl) h2⟩
  | fld n => obtain ⟨a, h1, h2⟩ := h; exact ⟨a, h1, k _ _ _ (.inl rfl) h2⟩
  | crlf => obtain ⟨a, b, c, d, h1, h2, h3, h4, h5⟩ := h; exact ⟨a, b, c, d, h1, k _ _ _ (.inr (.inl rfl)) h2, k _ _ _ (.inr (.inr rfl)) h3, k _ _ _ (.inl rfl) h4, k _ _ _ (.inl rfl) h5⟩
  | lf => obtain ⟨a, b, c, d, h1, h2, h3, h4, h5⟩ := h; exact ⟨a, b, c, d, h1, k _ _ _ (.inr (.inl rfl)) h2, k _ _ _ (.inr (.inr rfl)) h3, k _ _ _ (.inl rfl) h4, k _ _ _ (.inl rfl) h5⟩

theorem hmf_of : ∀ (fn : Fn) (first cap : Array Value) (w : World), (Instr.makeFunc fn first cap).run Tryz.prog w = .ok (.func fn first cap) w := fun _ _ _ _ => rfl
theorem at_last (w : World) (o : Obj) : (w.alloc o).heap[w.heap.size]? = some o := by show (w.heap.push o)[w.heap.size]? = some o; simp
theorem at_last2 (w : World) (o o' : Obj) : ((w.alloc o).alloc o').heap[w.heap.size]? = some o := by
  rw [Lib.alloc_old _ _ _ (by simp)]; exact at_last w o
theorem at_last3 (w : World) (o o' : Obj) : ((w.alloc o).alloc o').heap[w.heap.size + 1]? = some o' := by
  have := at_last (w.alloc o) o'
  simpa using this

set_option maxHeartbeats 1000000 in
set_option maxRecDepth 100000 in
theorem mkNumber (a b : Int) (d n : Nat) (ha : a = d) (hb : b = n) (w : World) :
    Calls Tryz.prog 71 #[.int .i64 a, .int .i64 b] w fun e w' => ∃ f, e = .returned f ∧ StepV w' f (.num d n) ∧ Below w.heap.size w w' := by
  have hmf := hmf_of
  subst ha hb
  go_enter Tryz.func71, Tryz.ntmps71
  go_wp2_with fail
  go_ret
  exact ⟨_, rfl, ⟨_, _, rfl, at_last2 _ _ _, at_last3 _ _ _⟩, ((Below.refl _ w).alloc (Nat.le_refl _) _).alloc (by simp) _⟩
set_option maxHeartbeats 1000000 in
set_option maxRecDepth 100000 in
theorem mkExtra (a b : Int) (d n : Nat) (ha : a = d) (hb : b = n) (w : World) :
    Calls Tryz.prog 91 #[.int .i64 a, .int .i64 b] w fun e w' => ∃ f, e = .returned f ∧ StepV w' f (.ext d n) ∧ Below w.heap.size w w' := by
  have hmf := hmf_of
  subst ha hb
  go_enter Tryz.func91, Tryz.ntmps91
  go_wp2_with fail
  go_ret
  exact ⟨_, rfl, ⟨_, _, rfl, at_last3 _ _ _, at_last2 _ _ _⟩, ((Below.refl _ w).alloc (Nat.le_refl _) _).alloc (by simp) _⟩
set_option maxHeartbeats 1000000 in
set_option maxRecDepth 100000 in
theorem mkEnd (b : Int) (n : Nat) (hb : b = n) (w : World) :
    Calls Tryz.prog 92 #[.int .i64 b] w fun e w' => ∃ f, e = .returned f ∧ StepV w' f (.endn n) ∧ Below w.heap.size w w' := by
  have hmf := hmf_of
  subst hb
  go_enter Tryz.func92, Tryz.ntmps92
  go_wp2_with fail
  go_ret
  exact ⟨_, rfl, ⟨_, rfl, at_last _ _⟩, (Below.refl _ w).alloc (Nat.le_refl _) _⟩
set_option maxHeartbeats 1000000 in
set_option maxRecDepth 100000 in
theorem mkBytes (b : Int) (n : Nat) (hb : b = n) (w : World) :
    Calls Tryz.prog 111 #[.int .i64 b] w fun e w' => ∃ f, e = .returned f ∧ StepV w' f (.byt n) ∧ Below w.heap.size w w' := by
  have hmf := hmf_of
  subst hb
  go_enter Tryz.func111, Tryz.ntmps111
  go_wp2_with fail
  go_ret
  exact ⟨_, rfl, ⟨_, rfl, at_last _ _⟩, (Below.refl _ w).alloc (Nat.le_refl _) _⟩
set_option maxHeartbeats 1000000 in
set_option maxRecDepth 100000 in
theorem mkFields (b : Int) (n : Nat) (hb : b = n) (w : World) :
    Calls Tryz.prog 110 #[.int .i64 b] w fun e w' => ∃ f, e = .returned f ∧ StepV w' f (.fld n) ∧ Below w.heap.size w w' := by
  have hmf := hmf_of
  subst hb
  go_enter Tryz.func110, Tryz.ntmps110
  go_wp2_with fail
  go_ret
  exact ⟨_, rfl, ⟨_, rfl, at_last _ _⟩, (Below.refl _ w).alloc (Nat.le_refl _) _⟩
set_option maxHeartbeats 1000000 in
set_option maxRecDepth 100000 in
theorem mkText (s : ByteArray) (fn : Fn) (fi ca : Array Value) (w : World) :
    Calls Tryz.prog 125 #[.string s, .func fn fi ca] w fun e w' => ∃ a b, e = .returned (.func (.func 132) #[] #[ptr a, ptr b]) ∧ w'.heap[a]? = some (.cells #[.string s] 9) ∧ w'.heap[b]? = some (.cells #[.func fn fi ca] 111) ∧ Below w.heap.size w w' := by
  have hmf := hmf_of
  go_enter Tryz.func125, Tryz.ntmps125
  go_wp2_with fail
  go_ret
  exact ⟨_, _, rfl, at_last2 _ _ _, at_last3 _ _ _, ((Below.refl _ w).alloc (Nat.le_refl _) _).alloc (by simp) _⟩
end Go.Proofs.YtipfjpihciiikabGreatDoor

/-
  What the function that takeNumber of package body hands back answers of a byte.
-/
namespace Go.Proofs.YtipfjpihciiikabGreatDoor
open Go.RowKit

/-- What a function value answers that neither reads nor writes the Decoder. -/
def Nx (w w' : World) (e : Ending) (r : Option St) : Prop :=
  Below w.heap.size w w' ∧ match r with
    | none => e = .returned (.tuple #[.nilFunc, .int .i64 3])
    | some st => ∃ f, e = .returned (.tuple #[f, .int .i64 0]) ∧ StepV w' f st
def numN (d n : Nat) (c : UInt8) : Option St :=
  match hv c with
  | some v => if d < 4 then some (.num (d + 1) (n * 16 + v)) else none
  | none => if 0 < d ∧ c = 59 then some (.ext 0 n) else if 0 < d ∧ c = 13 then some (.endn n) else none
theorem u8_is {c : UInt8} {k : Nat} (hk : k < 256) : c.toNat = k ↔ c = UInt8.ofNat k := by
  constructor
  · intro h; rw [← h]; simp
  · rintro rfl; simp; omega
theorem hv_no59 : hv 59 = none := by decide
theorem hv_no13 : hv 13 = none := by decide

set_option maxHeartbeats 4000000 in
set_option maxRecDepth 100000 in
theorem number1_at (d n : Nat) (c : UInt8) (a b : Nat) (pd : Value) (w : World) (hd : d ≤ 4) (hn : n < 65536) (ha : w.cell? ⟨a, 0, none⟩ = some (.int .i64 (d : Int))) (hb : w.cell? ⟨b, 0, none⟩ = some (.int .i64 (n : Int))) :
    Calls Tryz.prog 89 #[pd, .int .u8 (c.toNat : Int), ptr a, ptr b] w fun e w' => Nx w w' e (numN d n c) := by
  have hc : c.toNat < 256 := c.toNat_lt
  cases hv1 : hv c with
  | some v =>
    have hvl := hv_lt c v hv1
    have HV : Hid (hv c = some v) := hv1
    have h59 : ((c.toNat : Int) == 59) = false := by
      rw [beq_eq_false_iff_ne]; intro h
      have : c = 59 := (u8_is (k := 59) (by decide)).1 (by omega)
      rw [this, hv_no59] at hv1; cases hv1
    have h13 : ((c.toNat : Int) == 13) = false := by
      rw [beq_eq_false_iff_ne]; intro h
      have : c = 13 := (u8_is (k := 13) (by decide)).1 (by omega)
      rw [this, hv_no13] at hv1; cases hv1
    clear hv1
    by_cases h4 : (d : Int) < 4
    · have HR : Hid (numN d n c = some (.num (d + 1) (n * 16 + v))) := by show _ = _; unfold numN; rw [HV.out]; simp only; rw [if_pos (by omega)]
      go_enter Tryz.func89, Tryz.ntmps89
      go_wp2_with fail
      refine (hexDigit_any c _).mono ?_
      rintro e w1 ⟨rfl, rfl⟩
      rw [HV.out]
      go_wp2_with fail
      refine (mkNumber _ _ (d + 1) (n * 16 + v) (by go_num) (by go_num) _).mono ?_
      rintro e w2 ⟨f, rfl, hst, hbl⟩
      go_wp2_with fail
      go_ret2
      rw [HR.out]
      exact ⟨hbl, f, rfl, hst⟩
    · have HR : Hid (numN d n c = none) := by show _ = _; unfold numN; rw [HV.out]; simp only; rw [if_neg (by omega)]
      go_enter Tryz.func89, Tryz.ntmps89
      go_wp2_with fail
      refine (hexDigit_any c _).mono ?_
      rintro e w1 ⟨rfl, rfl⟩
      rw [HV.out]
      go_wp2_with fail
      all_goals
        go_ret2
        rw [HR.out]
        exact ⟨Below.refl _ _, rfl⟩
  | none =>
    have HV : Hid (hv c = none) := hv1
    clear hv1
    by_cases h0 : 0 < (d : Int)
    · by_cases h59 : (c.toNat : Int) = 59
      · have hc59 : c = 59 := (u8_is (k := 59) (by decide)).1 (by omega)
        have HR : Hid (numN d n c = some (.ext 0 n)) := by show _ = _; unfold numN; rw [HV.out]; simp only; rw [if_pos ⟨by omega, hc59⟩]
        have h59' : ((c.toNat : Int) == 59) = true := by rw [h59]; rfl
        clear hc59 h59
        go_enter Tryz.func89, Tryz.ntmps89
        go_wp2_with fail
        refine (hexDigit_any c _).mono ?_
        rintro e w1 ⟨rfl, rfl⟩
        rw [HV.out]
        go_wp2_with fail
        refine (mkExtra _ _ 0 n (by go_num) (by go_num) _).mono ?_
        rintro e w2 ⟨f, rfl, hst, hbl⟩
        go_wp2_with fail
        go_ret2
        rw [HR.out]
        exact ⟨hbl, f, rfl, hst⟩
      · have hn59 : c ≠ 59 := by rintro rfl; simp at h59
        have h59' : ((c.toNat : Int) == 59) = false := beq_eq_false_iff_ne.2 h59
        by_cases h13 : (c.toNat : Int) = 13
        · have hc13 : c = 13 := (u8_is (k := 13) (by decide)).1 (by omega)
          have HR : Hid (numN d n c = some (.endn n)) := by show _ = _; unfold numN; rw [HV.out]; simp only; rw [if_neg (fun x => hn59 x.2), if_pos ⟨by omega, hc13⟩]
          have h13' : ((c.toNat : Int) == 13) = true := by rw [h13]; rfl
          clear hc13 hn59 h59 h13
          go_enter Tryz.func89, Tryz.ntmps89
          go_wp2_with fail
          refine (hexDigit_any c _).mono ?_
          rintro e w1 ⟨rfl, rfl⟩
          rw [HV.out]
          go_wp2_with fail
          refine (mkEnd _ n (by go_num) _).mono ?_
          rintro e w2 ⟨f, rfl, hst, hbl⟩
          go_wp2_with fail
          go_ret2
          rw [HR.out]
          exact ⟨hbl, f, rfl, hst⟩
        · have hn13 : c ≠ 13 := by rintro rfl; simp at h13
          have h13' : ((c.toNat : Int) == 13) = false := beq_eq_false_iff_ne.2 h13
          have HR : Hid (numN d n c = none) := by show _ = _; unfold numN; rw [HV.out]; simp only; rw [if_neg (fun x => hn59 x.2), if_neg (fun x => hn13 x.2)]
          clear hn13 hn59 h59 h13
          go_enter Tryz.func89, Tryz.ntmps89
          go_wp2_with fail
          refine (hexDigit_any c _).mono ?_
          rintro e w1 ⟨rfl, rfl⟩
          rw [HV.out]
          go_wp2_with fail
          all_goals
            go_ret2
            rw [HR.out]
            exact ⟨Below.refl _ _, rfl⟩
    · have HR : Hid (numN d n c = none) := by show _ = _; unfold numN; rw [HV.out]; simp only; rw [if_neg (by omega), if_neg (by omega)]
      go_enter Tryz.func89, Tryz.ntmps89
      go_wp2_with fail
      refine (hexDigit_any c _).mono ?_
      rintro e w1 ⟨rfl, rfl⟩
      rw [HV.out]
      go_wp2_with fail
      all_goals
        go_ret2
        rw [HR.out]
        exact ⟨Below.refl _ _, rfl⟩
end Go.Proofs.YtipfjpihciiikabGreatDoor

/-
  What the functions that takeExtra, endNumber and takeText of package body hand back answer of a byte.
-/
namespace Go.Proofs.YtipfjpihciiikabGreatDoor
open Go.RowKit

def extN (k n : Nat) (c : UInt8) : Option St := if c = 13 then some (.endn n) else if k < 50 ∧ plainB c = true then some (.ext (k + 1) n) else none
theorem plain_one (c : UInt8) : allPlain [c] = plainB c := by simp [allPlain]

set_option maxHeartbeats 4000000 in
set_option maxRecDepth 100000 in
theorem extra1_at (k n : Nat) (c : UInt8) (a b : Nat) (pd : Value) (w : World) (hk : k ≤ 50) (ha : w.cell? ⟨a, 0, none⟩ = some (.int .i64 (n : Int))) (hb : w.cell? ⟨b, 0, none⟩ = some (.int .i64 (k : Int))) :
    Calls Tryz.prog 108 #[pd, .int .u8 (c.toNat : Int), ptr a, ptr b] w fun e w' => Nx w w' e (extN k n c) := by
  have hc : c.toNat < 256 := c.toNat_lt
  have has : a < w.heap.size := cell_in ha
  have hbs : b < w.heap.size := cell_in hb
  by_cases h13 : (c.toNat : Int) = 13
  · have hc13 : c = 13 := (u8_is (k := 13) (by decide)).1 (by omega)
    have HR : Hid (extN k n c = some (.endn n)) := by show _ = _; unfold extN; rw [if_pos hc13]
    have h13' : ((c.toNat : Int) == 13) = true := by rw [h13]; rfl
    clear hc13 h13
    go_enter Tryz.func108, Tryz.ntmps108
    go_wp2_with fail
    refine (mkEnd _ n (by go_num) _).mono ?_
    rintro e w2 ⟨f, rfl, hst, hbl⟩
    go_wp2_with fail
    go_ret2
    rw [HR.out]
    exact ⟨hbl, f, rfl, hst⟩
  · have hn13 : c ≠ 13 := by rintro rfl; simp at h13
    have h13' : ((c.toNat : Int) == 13) = false := beq_eq_false_iff_ne.2 h13
    clear h13
    by_cases h50 : (k : Int) < 50
    · have hcv := run_convert_bytes_back (P := Tryz.prog) (w.alloc (.cells #[.int .u8 (c.toNat : Int)] 5)) 63 9 5 ⟨w.heap.size, 0, none⟩ 1 [c] Tryz.underlying63 Tryz.underlying5 Tryz.underlying9 (fun j hj => by
        have hj' : j < 1 := hj
        obtain rfl : j = 0 := by omega
        rw [show (⟨w.heap.size, 0, none⟩ : Addr).add 0 = ⟨w.heap.size, 0, none⟩ from rfl, World.cell?_alloc_at _ _ _ _ (by simp)]
        simp)
      rw [show ([c] : List UInt8).length = 1 from rfl] at hcv
      have HS : Hid ((⟨[c].toArray⟩ : ByteArray).size ≤ maxLen) := by show _ ≤ _; rw [show (⟨[c].toArray⟩ : ByteArray).size = 1 from rfl]; decide
      cases hp : plainB c
      · have HR : Hid (extN k n c = none) := by show _ = _; unfold extN; rw [if_neg hn13, if_neg (by rw [hp]; simp)]
        have HP : Hid (allPlain (⟨[c].toArray⟩ : ByteArray).data.toList = false) := by show _ = _; rw [← hp]; exact plain_one c
        clear hp hn13
        go_enter Tryz.func108, Tryz.ntmps108
        go_wp2_with fail
        refine (isPlainS_is _ false HP.out _ HS.out).mono ?_
        rintro e w1 ⟨rfl, rfl⟩
        go_wp2_with fail
        go_ret2
        rw [HR.out]
        exact ⟨(Below.refl _ w).alloc (Nat.le_refl _) _, rfl⟩
      · have HR : Hid (extN k n c = some (.ext (k + 1) n)) := by show _ = _; unfold extN; rw [if_neg hn13, if_pos ⟨by omega, hp⟩]
        have HP : Hid (allPlain (⟨[c].toArray⟩ : ByteArray).data.toList = true) := by show _ = _; rw [← hp]; exact plain_one c
        clear hp hn13
        go_enter Tryz.func108, Tryz.ntmps108
        go_wp2_with fail
        refine (isPlainS_is _ true HP.out _ HS.out).mono ?_
        rintro e w1 ⟨rfl, hw1⟩
        have hB : Below w.heap.size w w1 := by rw [hw1]; exact (Below.refl _ w).alloc (Nat.le_refl _) _
        have ha1 : w1.cell? ⟨a, 0, none⟩ = some (.int .i64 (n : Int)) := (hB.cell (p := ⟨a, 0, none⟩) has).trans ha
        have hb1' : w1.cell? ⟨b, 0, none⟩ = some (.int .i64 (k : Int)) := (hB.cell (p := ⟨b, 0, none⟩) hbs).trans hb
        have hsz := hB.size
        clear hw1 ha hb hcv
        go_wp2_with fail
        refine (mkExtra _ _ (k + 1) n (by go_num) (by go_num) _).mono ?_
        rintro e w2 ⟨f, rfl, hst, hbl⟩
        go_wp2_with fail
        go_ret2
        rw [HR.out]
        exact ⟨hB.trans (hbl.mono hsz), f, rfl, hst⟩
    · have HR : Hid (extN k n c = none) := by show _ = _; unfold extN; rw [if_neg hn13, if_neg (by omega)]
      clear hn13
      go_enter Tryz.func108, Tryz.ntmps108
      go_wp2_with fail
      go_ret2
      rw [HR.out]
      exact ⟨Below.refl _ _, rfl⟩

def EndQ (n : Nat) (c : UInt8) (len : Nat) (w w' : World) (e : Ending) : Prop := Below w.heap.size w w' ∧
      (c ≠ 10 → e = .returned (.tuple #[.nilFunc, .int .i64 3])) ∧ (c = 10 → 5000 < len + n → e = .returned (.tuple #[.nilFunc, .int .i64 2])) ∧
      (c = 10 → ¬ 5000 < len + n → ∃ f, e = .returned (.tuple #[f, .int .i64 0]) ∧ StepV w' f (if n = 0 then .fld 0 else .byt n))
set_option maxHeartbeats 4000000 in
set_option maxRecDepth 100000 in
theorem end1_at (n : Nat) (c : UInt8) (a bd len cap : Nat) (ad : Option Addr) (w : World) (hn : n < 65536) (hl : len ≤ 5000) (ha : w.cell? ⟨a, 0, none⟩ = some (.int .i64 (n : Int))) (hb : w.cell? ⟨bd, 1, none⟩ = some (.slice ad len cap)) :
    Calls Tryz.prog 109 #[ptr bd, .int .u8 (c.toNat : Int), ptr a] w fun e w' => EndQ n c len w w' e := by
  have hwr : IntKind.i64.wrap ((len : Int) + (n : Int)) = (len : Int) + (n : Int) := wrap_small _ (by omega) (by omega)
  have hc : c.toNat < 256 := c.toNat_lt
  by_cases h10 : (c.toNat : Int) = 10
  · have hc10 : c = 10 := (u8_is (k := 10) (by decide)).1 (by omega)
    have HC : Hid (c = 10) := hc10
    have h10' : ((c.toNat : Int) != 10) = false := by rw [h10]; rfl
    clear hc10 h10
    by_cases hbig : 5000 < (len : Int) + (n : Int)
    · go_enter Tryz.func109, Tryz.ntmps109
      go_wp2_with fail
      go_quiet (fail)
      all_goals
        go_wp2_with fail
        go_ret2
        exact ⟨drewN_below _ _ _, fun h => absurd HC.out h, fun _ _ => rfl, fun _ h => absurd hbig (by omega)⟩
    · by_cases hn0 : (n : Int) = 0
      · have HN : Hid (n = 0) := by show _ = _; omega
        have hn0' : ((n : Int) == 0) = true := by rw [hn0]; rfl
        clear hn0
        go_enter Tryz.func109, Tryz.ntmps109
        go_wp2_with fail
        go_quiet (fail)
        all_goals
          go_wp2_with fail
          refine (mkFields _ 0 (by go_num) _).mono ?_
          rintro e w2 ⟨f, rfl, hst, hbl⟩
          go_wp2_with fail
          go_ret2
          exact ⟨(drewN_below _ _ _).trans (hbl.mono (by rw [drewN_size]; exact Nat.le_refl _)), fun h => absurd HC.out h, fun _ h => absurd h (by omega), fun _ _ => ⟨f, rfl, by rw [if_pos HN.out]; exact hst⟩⟩
      · have hn0' : ((n : Int) == 0) = false := beq_eq_false_iff_ne.2 hn0
        have HN : Hid (n ≠ 0) := by show _ ≠ _; omega
        clear hn0
        go_enter Tryz.func109, Tryz.ntmps109
        go_wp2_with fail
        go_quiet (fail)
        all_goals
          go_wp2_with fail
          refine (mkBytes _ n (by go_num) _).mono ?_
          rintro e w2 ⟨f, rfl, hst, hbl⟩
          go_wp2_with fail
          go_ret2
          exact ⟨(drewN_below _ _ _).trans (hbl.mono (by rw [drewN_size]; exact Nat.le_refl _)), fun h => absurd HC.out h, fun _ h => absurd h (by omega), fun _ _ => ⟨f, rfl, by rw [if_neg HN.out]; exact hst⟩⟩
  · have HC : Hid (c ≠ 10) := by show _ ≠ _; rintro rfl; simp at h10
    have h10' : ((c.toNat : Int) != 10) = true := by simp [h10]
    clear h10
    go_enter Tryz.func109, Tryz.ntmps109
    go_wp2_with fail
    go_ret2
    exact ⟨Below.refl _ _, fun _ => rfl, fun h => absurd h HC.out, fun h => absurd h HC.out⟩
end Go.Proofs.YtipfjpihciiikabGreatDoor

/-
  What the function that takeText of package body hands back answers of a byte.
-/
namespace Go.Proofs.YtipfjpihciiikabGreatDoor
open Go.RowKit

def crN (c : UInt8) : Option St := if c = 13 then some .lf else none
def lfN (c : UInt8) : Option St := if c = 10 then some (.num 0 0) else none
set_option maxHeartbeats 4000000 in
set_option maxRecDepth 100000 in
theorem text1_cr (c : UInt8) (f : Value) (w : World) (h : StepV w f .crlf) (pd : Value) :
    ∃ lb, f = .func (.func 132) #[] lb ∧ Calls Tryz.prog 132 (#[pd, .int .u8 (c.toNat : Int)] ++ lb) w fun e w' => Nx w w' e (crN c) := by
  obtain ⟨a, b, k, d, hf, ha, hb, hk, hd⟩ := h
  refine ⟨_, hf, ?_⟩
  show Calls Tryz.prog 132 #[pd, .int .u8 (c.toNat : Int), ptr a, ptr b] w _
  have ha1 := cellH ha
  have hb1 := cellH hb
  have HK : Hid (w.heap[k]? = some (.cells #[.int .i64 0] 3)) := hk
  have HD : Hid (w.heap[d]? = some (.cells #[.int .i64 0] 3)) := hd
  have hc : c.toNat < 256 := c.toNat_lt
  clear hf ha hb hk hd
  by_cases h13 : (c.toNat : Int) = 13
  · have hc13 : c = 13 := (u8_is (k := 13) (by decide)).1 (by omega)
    have HR : Hid (crN c = some .lf) := by show _ = _; unfold crN; rw [if_pos hc13]
    have h13' : ((c.toNat : Int) != 13) = false := by rw [h13]; rfl
    have h13'' : ((c.toNat : Int) != (((⟨#[13, 10]⟩ : ByteArray)[0]'(by decide)).toNat : Int)) = false := h13'
    clear hc13 h13 h13'
    go_enter Tryz.func132, Tryz.ntmps132
    go_wp2_with fail
    go_region_held3 (fun w' => w'.cell? ⟨a, 0, none⟩ = some (.string ⟨#[13, 10]⟩) ∧ w'.cell? ⟨b, 0, none⟩ = some (.func (.func 89) #[] #[ptr k, ptr d])) (go_keep) (first | (go_at_call 125; refine (mkText _ _ _ _ _).mono ?_; rintro e w3 ⟨a', b', rfl, ha', hb', hbl⟩; have hk1 : w3.cell? ⟨a, 0, none⟩ = some (.string ⟨#[13, 10]⟩) := (hbl.cell (p := ⟨a, 0, none⟩) (cell_in ha1)).trans ha1; have hk2 : w3.cell? ⟨b, 0, none⟩ = some (.func (.func 89) #[] #[ptr k, ptr d]) := (hbl.cell (p := ⟨b, 0, none⟩) (cell_in hb1)).trans hb1))
    all_goals
      go_wp2_with fail
      go_ret2
      rw [HR.out]
      exact ⟨(Below.refl _ w).drew.trans hbl, _, rfl, a', b', k, d, rfl, ha', hb', KeepC.below hbl _ _ _ (.inl rfl) HK.out, KeepC.below hbl _ _ _ (.inl rfl) HD.out⟩
  · have hn13 : c ≠ 13 := by rintro rfl; simp at h13
    have HR : Hid (crN c = none) := by show _ = _; unfold crN; rw [if_neg hn13]
    have h13' : ((c.toNat : Int) != 13) = true := by simp [h13]
    have h13'' : ((c.toNat : Int) != (((⟨#[13, 10]⟩ : ByteArray)[0]'(by decide)).toNat : Int)) = true := h13'
    clear hn13 h13 h13'
    go_enter Tryz.func132, Tryz.ntmps132
    go_wp2_with fail
    go_ret2
    rw [HR.out]
    exact ⟨Below.refl _ _, rfl⟩
set_option maxHeartbeats 4000000 in
set_option maxRecDepth 100000 in
theorem text1_lf (c : UInt8) (f : Value) (w : World) (h : StepV w f .lf) (pd : Value) :
    ∃ lb, f = .func (.func 132) #[] lb ∧ Calls Tryz.prog 132 (#[pd, .int .u8 (c.toNat : Int)] ++ lb) w fun e w' => Nx w w' e (lfN c) := by
  obtain ⟨a, b, k, d, hf, ha, hb, hk, hd⟩ := h
  refine ⟨_, hf, ?_⟩
  show Calls Tryz.prog 132 #[pd, .int .u8 (c.toNat : Int), ptr a, ptr b] w _
  have ha1 := cellH ha
  have hb1 := cellH hb
  have HK : Hid (w.heap[k]? = some (.cells #[.int .i64 0] 3)) := hk
  have HD : Hid (w.heap[d]? = some (.cells #[.int .i64 0] 3)) := hd
  have hc : c.toNat < 256 := c.toNat_lt
  clear hf ha hb hk hd
  by_cases h13 : (c.toNat : Int) = 10
  · have hc13 : c = 10 := (u8_is (k := 10) (by decide)).1 (by omega)
    have HR : Hid (lfN c = some (.num 0 0)) := by show _ = _; unfold lfN; rw [if_pos hc13]
    have h13' : ((c.toNat : Int) != 10) = false := by rw [h13]; rfl
    have h13'' : ((c.toNat : Int) != (((⟨#[10]⟩ : ByteArray)[0]'(by decide)).toNat : Int)) = false := h13'
    clear hc13 h13 h13'
    go_enter Tryz.func132, Tryz.ntmps132
    go_wp2_with fail
    go_ret2
    rw [HR.out]
    exact ⟨Below.refl _ _, _, rfl, k, d, rfl, HK.out, HD.out⟩
  · have hn13 : c ≠ 10 := by rintro rfl; simp at h13
    have HR : Hid (lfN c = none) := by show _ = _; unfold lfN; rw [if_neg hn13]
    have h13' : ((c.toNat : Int) != 10) = true := by simp [h13]
    have h13'' : ((c.toNat : Int) != (((⟨#[10]⟩ : ByteArray)[0]'(by decide)).toNat : Int)) = true := h13'
    clear hn13 h13 h13'
    go_enter Tryz.func132, Tryz.ntmps132
    go_wp2_with fail
    go_ret2
    rw [HR.out]
    exact ⟨Below.refl _ _, rfl⟩
end Go.Proofs.YtipfjpihciiikabGreatDoor

/-
  What the function that takeBytes of package body hands back does to a Decoder: the byte comes behind the body.
-/
namespace Go.Proofs.YtipfjpihciiikabGreatDoor
open Go.RowKit

theorem info5 : (Tryz.prog.info? 5).map (fun i => (i.zero, i.size, i.bytes)) = some (some (.int .u8 0), 1, 1) := by kernel_rfl
/-- A Decoder in block bd: what it holds, and its two rows, of its own. -/
def Dec (B : Nat) (w : World) (bd : Nat) (f0 : Value) (x : Ds) : Prop :=
  ∃ vb vf Bf, w.heap[bd]? = some (.cells #[f0, vb, vf, .bool x.done] 114) ∧ B ≤ bd ∧ B ≤ Bf ∧ Bf ≤ w.heap.size ∧
    w.ownsRow B 5 1 vb x.body.length (u8s x.body) ∧ w.ownsRow Bf 5 1 vf x.fields.length (u8s x.fields) ∧ (∀ g, vb.ownBlock = some g → g < Bf) ∧ (x.fields = [] → vf = .slice none 0 0)
theorem heap_set_at {w : World} {bd : Nat} {cs : Array Value} {t : TypeId} (h : w.heap[bd]? = some (.cells cs t)) (i : Nat) (v : Value) : (w.setCell ⟨bd, i, none⟩ v).heap[bd]? = some (.cells (cs.setIfInBounds i v) t) := by
  simp [World.setCell, Array.getElem?_modify, h]
theorem heap_set_ne {w : World} {bd k : Nat} (h : k ≠ bd) (i : Nat) (v : Value) : (w.setCell ⟨bd, i, none⟩ v).heap[k]? = w.heap[k]? := Below.heap_setCell w ⟨bd, i, none⟩ v k h
theorem own_set {w : World} {B bd n : Nat} {v : Value} {xs : List Value} {cs : Array Value} (h : w.ownsRow B 5 1 v n xs) (hb : w.heap[bd]? = some (.cells cs 114)) (i : Nat) (u : Value) : (w.setCell ⟨bd, i, none⟩ u).ownsRow B 5 1 v n xs := by
  refine ⟨h.1, ?_⟩
  rcases h.2 with h0 | ⟨g, cap, cur, hv, hB, hg, h3⟩
  · exact .inl h0
  · refine .inr ⟨g, cap, cur, hv, hB, ?_, h3⟩
    rw [heap_set_ne ?_]
    · exact hg
    · rintro rfl
      rw [hg] at hb
      have h := Option.some.inj hb
      injection h with _ h2
      exact absurd h2 (by decide)
theorem Dec.below {B : Nat} {w w' : World} {bd : Nat} {f0 : Value} {x : Ds} (h : Dec B w bd f0 x) (hb : Below w.heap.size w w') : Dec B w' bd f0 x := by
  obtain ⟨vb, vf, Bf, h1, h2, h3, h4, h5, h6, h7, h8⟩ := h
  exact ⟨vb, vf, Bf, (hb.block bd (Array.getElem?_eq_some_iff.1 h1).1).trans h1, h2, h3, Nat.le_trans h4 hb.size, own_below2 h5 hb, own_below2 h6 hb, h7, h8⟩
theorem dec_grown {B : Nat} {w w1 : World} {bd n : Nat} {cs : Array Value} {u v : Value} {xs : List Value} (h1 : w.heap[bd]? = some (.cells cs 114)) (h5 : w.ownsRow B 5 1 u n xs) (hg : (w.alloc (.cells #[v] 5)).grownBy w1 u.ownBlock) : w1.heap[bd]? = some (.cells cs 114) := by
  have hlt : bd < w.heap.size := (Array.getElem?_eq_some_iff.1 h1).1
  have hne : some bd ≠ u.ownBlock := by
    intro e
    obtain ⟨c', hc'⟩ := own5 (h5.alloc (.cells #[v] 5)) bd e.symm
    rw [Lib.alloc_old _ _ _ hlt, h1] at hc'
    have h := Option.some.inj hc'
    injection h with _ h2
    exact absurd h2 (by decide)
  rw [hg.block bd (by simp; omega) hne, Lib.alloc_old _ _ _ hlt]; exact h1
/-- What append and the store into the Decoder leave: the body's row. -/
theorem Dec.body {B : Nat} {w w1 : World} {bd : Nat} {f0 vb vf v' : Value} {x : Ds} {c : UInt8} (h1 : w.heap[bd]? = some (.cells #[f0, vb, vf, .bool x.done] 114)) (h2 : B ≤ bd)
    (h5 : w.ownsRow B 5 1 vb x.body.length (u8s x.body)) (h8 : x.fields = []) (h9 : vf = .slice none 0 0)
    (ho : w1.ownsRow B 5 1 v' (x.body.length + 1) (u8s x.body ++ [.int .u8 (c.toNat : Int)])) (hg : (w.alloc (.cells #[.int .u8 (c.toNat : Int)] 5)).grownBy w1 vb.ownBlock) :
    Dec B (w1.setCell ⟨bd, 1, none⟩ v') bd f0 { x with body := x.body ++ [c] } ∧ KeepC w (w1.setCell ⟨bd, 1, none⟩ v') ∧ Below B w (w1.setCell ⟨bd, 1, none⟩ v') := by
  have hlt : bd < w.heap.size := (Array.getElem?_eq_some_iff.1 h1).1
  have hk0 : KeepC w (w.alloc (.cells #[.int .u8 (c.toNat : Int)] 5)) := KeepC.below ((Below.refl _ w).alloc (Nat.le_refl _) _)
  have hrow : ∀ g, vb.ownBlock = some g → ∃ c', (w.alloc (.cells #[.int .u8 (c.toNat : Int)] 5)).heap[g]? = some (.cells c' 5) := own5 (h5.alloc _)
  have hne : some bd ≠ vb.ownBlock := by
    intro e
    obtain ⟨c', hc'⟩ := hrow bd e.symm
    rw [Lib.alloc_old _ _ _ hlt, h1] at hc'
    have h := Option.some.inj hc'
    injection h with _ h2
    exact absurd h2 (by decide)
  have hb1 : w1.heap[bd]? = some (.cells #[f0, vb, vf, .bool x.done] 114) := by
    rw [hg.block bd (by simp; omega) hne, Lib.alloc_old _ _ _ hlt]; exact h1
  have hsz : w.heap.size ≤ w1.heap.size := Nat.le_trans (by simp) hg.size
  have hrow2 : ∀ g, vb.ownBlock = some g → B ≤ g ∧ g < w.heap.size := h5.lt
  refine ⟨⟨v', vf, w1.heap.size, ?_, h2, by omega, ?_, ?_, ?_, ?_, fun _ => h9⟩, (hk0.trans (KeepC.grown hg hrow)).trans (KeepC.set hb1 _ _), ?_⟩
  · rw [heap_set_at hb1]; rfl
  · simp
  · have := own_set ho hb1 1 v'
    rw [show u8s x.body ++ [.int .u8 (c.toNat : Int)] = u8s (x.body ++ [c]) from (u8s_snoc _ _).symm] at this
    simpa using this
  · rw [h9]
    show World.ownsRow _ _ _ _ _ x.fields.length (u8s x.fields)
    rw [h8]
    exact World.ownsRow_nil _ _ _ _
  · exact fun g hg' => (ho.lt g hg').2
  · exact ((((Below.refl B w).alloc (by omega) _).grown hg (by simp; omega) (fun b hb => (hrow2 b hb).1))).setCell (by simpa using h2) _
theorem dec_cell {w : World} {bd : Nat} {a b c d : Value} {t : TypeId} (h : w.heap[bd]? = some (.cells #[a, b, c, d] t)) : w.cell? ⟨bd, 0, none⟩ = some a ∧ w.cell? ⟨bd, 1, none⟩ = some b ∧ w.cell? ⟨bd, 2, none⟩ = some c ∧ w.cell? ⟨bd, 3, none⟩ = some d := by
  simp [World.cell?, h]
set_option maxHeartbeats 4000000 in
set_option maxRecDepth 100000 in
theorem bytes1_at (B : Nat) (x : Ds) (c : UInt8) (l a bd : Nat) (f0 : Value) (w : World) (hd : Dec B w bd f0 x) (hf : x.fields = []) (hl : 0 < l) (hlen : x.body.length + l ≤ 5000) (ha : w.heap[a]? = some (.cells #[.int .i64 (l : Int)] 3)) :
    Calls Tryz.prog 124 #[ptr bd, .int .u8 (c.toNat : Int), ptr a] w fun e w' => ∃ f, e = .returned (.tuple #[f, .int .i64 0]) ∧ Dec B w' bd f0 { x with body := x.body ++ [c] } ∧ StepV w' f (if 1 < l then .byt (l - 1) else .crlf) ∧ KeepC w w' ∧ Below B w w' := by
  obtain ⟨i0, hi, hz0, hz1, hz2⟩ := info_parts info5
  obtain ⟨vb, vf, Bf, h1, h2, h3, h4, h5, h6, h7, h8⟩ := hd
  have hbd : bd < w.heap.size := (Array.getElem?_eq_some_iff.1 h1).1
  obtain ⟨_, hc1, _, _⟩ := dec_cell h1
  have H1 : Hid (w.heap[bd]? = some (.cells #[f0, vb, vf, .bool x.done] 114)) := h1
  have H5 : Hid (w.ownsRow B 5 1 vb x.body.length (u8s x.body)) := h5
  have HA : Hid (w.heap[a]? = some (.cells #[.int .i64 (l : Int)] 3)) := ha
  have HF : Hid (x.fields = []) := hf
  have H9 : Hid (vf = .slice none 0 0) := h8 hf
  clear h1 h5 h6 h7 h8 ha hf h3 h4
  go_enter Tryz.func124, Tryz.ntmps124
  go_wp2_with (at_builtin; refine wpList_append_own _ rfl _ _ 63 rfl B 5 i0 (.int .u8 0) 1 1 Tryz.underlying63 hi hz0 hz1 hz2 rfl (by decide) _ _ _ rfl (H5.out.alloc _) ⟨w.heap.size, 0, none⟩ 1 1 [.int .u8 (c.toNat : Int)] rfl rfl ?c1 ?c2 ?c3 ?c4 ?c5 ?_)
  case c1 => exact one_cell _ _ _
  case c2 => intro z hx; simp at hx; subst hx; rfl
  case c3 => unfold maxLen; omega
  case c4 => omega
  case c5 => simp; omega
  · intro v' w1 hown hg _
    obtain ⟨D1, D2, D3⟩ := Dec.body H1.out h2 H5.out HF.out H9.out hown hg
    have hb1 : w1.heap[bd]? = some (.cells #[f0, vb, vf, .bool x.done] 114) := dec_grown H1.out H5.out hg
    obtain ⟨_, hc2, _, _⟩ := dec_cell hb1
    have hfr : w1.frozen? ⟨bd, 1, none⟩ = false := Lib.frozen_of_heap hb1 1
    have hca := cellH (D2 _ _ _ (.inl rfl) HA.out)
    obtain ⟨ad', cap', hv', _⟩ := own_slice hown
    subst hv'
    have hsz1 : B ≤ (w1.setCell ⟨bd, 1, none⟩ (.slice ad' (x.body.length + 1) cap')).heap.size := by
      have := hg.size; simp at this ⊢; omega
    clear hown hg hb1
    by_cases hl1 : 1 < (l : Int)
    · go_wp2_with fail
      refine (mkBytes _ (l - 1) (by go_num) _).mono ?_
      rintro e w2 ⟨f, rfl, hst, hbl⟩
      go_wp2_with fail
      go_ret2
      exact ⟨f, rfl, D1.below hbl, hst, D2.trans (KeepC.below hbl), D3.trans (hbl.mono hsz1)⟩
    · go_wp2_with fail
      refine (mkNumber _ _ 0 0 (by go_num) (by go_num) _).mono ?_
      rintro e w2 ⟨f, rfl, ⟨q, r, rfl, hq, hr⟩, hbl⟩
      go_wp2_with fail
      refine (mkText _ _ _ _ _).mono ?_
      rintro e w3 ⟨q', r', rfl, hq', hr', hbl'⟩
      go_wp2_with fail
      go_ret2
      have hs2 := hbl.size
      refine ⟨_, rfl, (D1.below hbl).below hbl', ?_, (D2.trans (KeepC.below hbl)).trans (KeepC.below hbl'), (D3.trans (hbl.mono hsz1)).trans (hbl'.mono (by omega))⟩
      exact ⟨q', r', q, r, rfl, hq', hr', KeepC.below hbl' _ _ _ (.inl rfl) hq, KeepC.below hbl' _ _ _ (.inl rfl) hr⟩
end Go.Proofs.YtipfjpihciiikabGreatDoor
