/-
  What Parse of package field computes; the text has less than 2^32 - 15 bytes, and the package variable that the library reads holds some number.
-/
import Derived.Test.YtofafonppajfkaaDoorWCutL
namespace Go.Proofs.YtofafonppajfkaaDoor
open Go.RowKit

def lenV : Value → Nat
  | .string s => s.size
  | _ => 0
/-- How many bytes were read. -/
def parN (l : List UInt8) : Int := if (parS l []).2.2 = 0 then (l.length : Int) - ((parS l []).2.1.length : Int) else 0
theorem ret_three {v : Value} {a b c d : Int} (h : a = b) (h' : c = d) : Ending.returned (.tuple #[v, .int .i64 a, .int .i64 c]) = .returned (.tuple #[v, .int .i64 b, .int .i64 d]) := by rw [h, h']

set_option maxHeartbeats 8000000 in
set_option maxRecDepth 100000 in
theorem parse_any (s : ByteArray) (m : Int) (w : World) (hm : w.cell? ⟨0, 0, none⟩ = some (.int .i64 m)) (hs : s.size < 4294967281) :
    Calls Tryd.prog 101 #[.string s] w fun e w' => ∃ v, e = .returned (.tuple #[v, .int .i64 (parN s.data.toList), .int .i64 (parS s.data.toList []).2.2]) ∧
      w'.ownsRow w.heap.size 72 2 v (parS s.data.toList []).1.length (flds (parS s.data.toList []).1) ∧ Below w.heap.size w w' := by
  obtain ⟨i0, hi, hz0, hz1, hz2⟩ := info_parts infoF
  have HM : Hid (w.cell? ⟨0, 0, none⟩ = some (.int .i64 m)) := hm
  clear hm
  have hsl := size_list s
  have HSL : Hid (s.data.toList.length = s.size) := hsl
  clear hsl
  go_enter Tryd.func101, Tryd.ntmps101
  go_wp2_with fail
  go_loopw [5, 6] (fun v rv wr => ∃ (r : ByteArray) (ps : List Fld), rv = .string r ∧ parS r.data.toList ps = parS s.data.toList [] ∧ r.size ≤ s.size ∧ ps.length ≤ 30 ∧ wr.ownsRow w.heap.size 72 2 v ps.length (flds ps) ∧ Below w.heap.size w wr) (fun _ rv _ => lenV rv)
  case atStart => exact ⟨s, [], rfl, rfl, Nat.le_refl _, by simp, World.ownsRow_nil _ _ _ _, Below.refl _ _⟩
  case round =>
    obtain ⟨r, ps, rfl, hpar, hrs, hpl, hown, hw⟩ := hrel
    have HPAR : Hid (parS r.data.toList ps = parS s.data.toList []) := hpar
    clear hpar
    have hsz := hw.size
    have HMr : Hid (wr.cell? ⟨0, 0, none⟩ = some (.int .i64 m)) := cell_keep hw HM.out
    have hrl := size_list r
    obtain ⟨ad, cap, hv, hcm, hnc, hcx⟩ := own_form2 hown
    subst hv
    clear hcx
    unfold maxLen at hcm
    rcases index_two' r.data.toList [13, 10] with hix | ⟨k, hix, hk⟩
    · obtain ⟨c, hc⟩ : ∃ c : Int, c = if 1101 < r.data.toList.length then 2 else 8 := ⟨_, rfl⟩
      have HIX : Hid (Lib.index r.data.toList [13, 10] = -1) := hix
      have HC : Hid ((if 1101 < r.data.toList.length then 2 else 8 : Int) = c) := hc.symm
      have HR : Hid (parS s.data.toList [] = ([], [], c)) := by show _ = _; rw [← HPAR.out, par_none _ _ hix, hc]
      have hcb : (c != 0) = true := by rw [hc]; split <;> rfl
      have HC0 : Hid (c ≠ 0) := by show _ ≠ _; rw [hc]; split <;> decide
      clear hix hc hrl
      go_wp2_with fail
      refine (cutLine_no r 1100 (by omega) HIX.out m _ HMr.out (by omega)).mono ?_
      rintro e w1 ⟨rfl, nd, rfl⟩
      rw [HC.out]
      go_wp2_with fail
      go_ret3
      refine ⟨.slice none 0 0, ret_three ?_ (by rw [HR.out]), by rw [HR.out]; exact World.ownsRow_nil _ _ _ _, hw.trans (drewN_below _ _ _)⟩
      unfold parN; rw [HR.out, if_neg HC0.out]
    · replace hk : k + 2 ≤ r.size := by simpa using hk
      have HIX : Hid (Lib.index r.data.toList [13, 10] = k) := hix
      obtain ⟨b, hb⟩ : ∃ b : ByteArray, b.data.toList = r.data.toList.drop (k + 2) := ⟨⟨(r.data.toList.drop (k + 2)).toArray⟩, rfl⟩
      have HB : Hid (b.data.toList = r.data.toList.drop (k + 2)) := hb
      have hbs : b.size = r.size - (k + 2) := by rw [← size_list, hb, List.length_drop, hrl]
      by_cases hk0 : k = 0
      · subst hk0
        have HA : Hid ((⟨#[]⟩ : ByteArray).data.toList = r.data.toList.take 0) := by show _ = _; simp
        have HR : Hid (parS s.data.toList [] = (ps, b.data.toList, 0)) := by show _ = _; rw [← HPAR.out, par_end _ _ hix, hb]
        have HBL := size_list b
        clear hix hb hrl
        go_wp2_with fail
        refine (cutLine_yes r ⟨#[]⟩ b 1100 0 HIX.out (by omega) HA.out HB.out m _ HMr.out (by omega)).mono ?_
        rintro e w1 ⟨rfl, nd, rfl⟩
        go_wp2_with fail
        go_ret3
        refine ⟨_, ret_three ?_ (by rw [HR.out]), by rw [HR.out]; exact own_below3 hown (drewN_below _ _ _), hw.trans (drewN_below _ _ _)⟩
        unfold parN; rw [HR.out, if_pos rfl, HSL.out, HBL]; omega
      · obtain ⟨a, ha⟩ : ∃ a : ByteArray, a.data.toList = r.data.toList.take k := ⟨⟨(r.data.toList.take k).toArray⟩, rfl⟩
        have HA : Hid (a.data.toList = r.data.toList.take k) := ha
        have has : a.size = k := by rw [← size_list, ha, List.length_take, hrl]; omega
        have hem : a.toList.isEmpty = false := by
          rw [ByteArray.toList_eq, isEmpty_size, has]; simp [hk0]
        clear ha hb hrl hix
        by_cases h1 : 1100 < (a.size : Int)
        · have HR : Hid (parS s.data.toList [] = ([], [], 2)) := by show _ = _; rw [← HPAR.out]; exact par_large _ _ k HIX.out hk0 (.inl (by omega))
          have hk1 : 1100 < k := by omega
          clear has
          go_wp2_with fail
          refine (cutLine_large r 1100 k HIX.out hk1 m _ HMr.out (by omega)).mono ?_
          rintro e w1 ⟨rfl, nd, rfl⟩
          go_wp2_with fail
          go_ret3
          refine ⟨.slice none 0 0, ret_three ?_ (by rw [HR.out]), by rw [HR.out]; exact World.ownsRow_nil _ _ _ _, hw.trans (drewN_below _ _ _)⟩
          unfold parN; rw [HR.out, if_neg (by decide)]
        · have hk2 : k ≤ 1100 := by omega
          by_cases h2 : ps.length = 30
          · have HR : Hid (parS s.data.toList [] = ([], [], 2)) := by show _ = _; rw [← HPAR.out]; exact par_large _ _ k HIX.out hk0 (.inr (by omega))
            have hd2 : ((ps.length : Int) == 30) = true := by rw [h2]; rfl
            clear has h2
            go_wp2_with fail
            refine (cutLine_yes r a b 1100 k HIX.out hk2 HA.out HB.out m _ HMr.out (by omega)).mono ?_
            rintro e w1 ⟨rfl, nd, rfl⟩
            go_wp2_with fail
            go_ret3
            refine ⟨.slice none 0 0, ret_three ?_ (by rw [HR.out]), by rw [HR.out]; exact World.ownsRow_nil _ _ _ _, hw.trans (drewN_below _ _ _)⟩
            unfold parN; rw [HR.out, if_neg (by decide)]
          · have hd2 : ((ps.length : Int) == 30) = false := by rw [beq_eq_false_iff_ne]; omega
            have has2 : a.size ≤ 1100 := by omega
            have hnl : ¬ (1100 < k ∨ 30 ≤ ps.length) := by omega
            obtain ⟨x, y, c, hrd⟩ : ∃ (x y : ByteArray) (c : Int), rdF a.data.toList = ((x.data.toList, y.data.toList), c) := ⟨⟨(rdF a.data.toList).1.1.toArray⟩, ⟨(rdF a.data.toList).1.2.toArray⟩, (rdF a.data.toList).2, rfl⟩
            have HRD : Hid (rdF a.data.toList = ((x.data.toList, y.data.toList), c)) := hrd
            by_cases hc0 : c = 0
            · subst hc0
              have HR : Hid (parS b.data.toList (ps ++ [(x.data.toList, y.data.toList)]) = parS s.data.toList []) := by
                show _ = _
                rw [← HPAR.out, par_ok _ _ k HIX.out hk0 hnl (by rw [← HA.out, hrd]), ← HA.out, ← HB.out, hrd]
              have hpl2 : ps.length < 30 := by omega
              clear has hrd h2 hnl
              go_wp2_with fail
              refine (cutLine_yes r a b 1100 k HIX.out hk2 HA.out HB.out m _ HMr.out (by omega)).mono ?_
              rintro e w1 ⟨rfl, nd, rfl⟩
              have hown1 := own_below3 hown (drewN_below wr.heap.size wr nd)
              have hw1 := hw.trans (drewN_below w.heap.size wr nd)
              have HM1 : Hid ((wr.drewN nd).cell? ⟨0, 0, none⟩ = some (.int .i64 m)) := cell_keep hw1 HM.out
              clear hown
              go_wp2_with fail
              refine (readField_at a x y 0 HRD.out m _ HM1.out has2).mono ?_
              rintro e w3 ⟨rfl, hb3⟩
              have hown3 := own_below3 hown1 hb3
              have hw3 := hw1.trans (hb3.mono hw1.size)
              have hsz3 := hw3.size
              clear hown1 hb3
              go_wp2_with (at_builtin; refine wpList_append_own _ rfl _ _ 22 rfl w.heap.size 72 i0 (.agg #[.string ⟨#[]⟩, .string ⟨#[]⟩]) 2 32 Tryd.underlying22 hi hz0 hz1 hz2 rfl (by decide) _ _ _ rfl ((hown3.alloc _).alloc _) ⟨w3.heap.size + 1, 0, none⟩ 1 1 [.string x, .string y] rfl rfl ?c1 ?c2 ?c3 ?c4 ?c5 ?_)
              case c1 =>
                intro j z h
                match j, h with
                | 0, h => simp at h; subst h; simp [Addr.add]
                | 1, h => simp at h; subst h; simp [Addr.add]
              case c2 => intro z hx; simp at hx; rcases hx with rfl | rfl <;> rfl
              case c3 => unfold maxLen; omega
              case c4 => omega
              case c5 => simp; omega
              · intro v' w4 hown' hgrow _
                have hB : Below w.heap.size w w4 := ((hw3.alloc (by omega) _).alloc (by simp; omega) _).grown hgrow (by simp; omega) (fun b hb => (((hown3.alloc (.cells #[.string x, .string y] 72)).alloc (.cells #[.string x, .string y] 72)).lt b hb).1)
                have hown4 : w4.ownsRow w.heap.size 72 2 v' (ps ++ [(x.data.toList, y.data.toList)]).length (flds (ps ++ [(x.data.toList, y.data.toList)])) := by
                  rw [← flds_snoc, List.length_append]; exact hown'
                clear hown' hgrow hown3 hw3
                go_wp2_with fail
                go_roundw
                case rel => exact ⟨b, ps ++ [(x.data.toList, y.data.toList)], rfl, HR.out, by omega, by simp; omega, hown4, hB⟩
                case measure => simp [lenV]; omega
            · have hcb : (c != 0) = true := by simpa using hc0
              have HC0 : Hid (c ≠ 0) := hc0
              have HR : Hid (parS s.data.toList [] = ([], [], c)) := by
                show _ = _
                rw [← HPAR.out, par_bad _ _ k HIX.out hk0 hnl (by rw [← HA.out, hrd]; exact hc0), ← HA.out, hrd]
              clear has hrd h2 hnl hc0
              go_wp2_with fail
              refine (cutLine_yes r a b 1100 k HIX.out hk2 HA.out HB.out m _ HMr.out (by omega)).mono ?_
              rintro e w1 ⟨rfl, nd, rfl⟩
              have hw1 := hw.trans (drewN_below w.heap.size wr nd)
              have HM1 : Hid ((wr.drewN nd).cell? ⟨0, 0, none⟩ = some (.int .i64 m)) := cell_keep hw1 HM.out
              clear hown
              go_wp2_with fail
              refine (readField_at a x y c HRD.out m _ HM1.out has2).mono ?_
              rintro e w3 ⟨rfl, hb3⟩
              have hw3 := hw1.trans (hb3.mono hw1.size)
              have hsz3 := hw3.size
              clear hb3
              go_wp2_with fail
              go_ret3
              refine ⟨.slice none 0 0, ret_three ?_ (by rw [HR.out]), by rw [HR.out]; exact World.ownsRow_nil _ _ _ _, hw3.alloc hsz3 _⟩
              unfold parN; rw [HR.out, if_neg HC0.out]
end Go.Proofs.YtofafonppajfkaaDoor
