/-
  What Parse of package control answers, whatever text comes in.
-/
import Derived.Test.YtoccjnbodoiibaaDoorMc
import Derived.Test.YtoccjnbodoiibaaDoorShelf
import Derived.Test.YtoccjnbodoiibaaDoorRows
import Derived.Deep.RegionHeld3
import Derived.BigQuiet
import Derived.Deep.QuietTactic
namespace Go.Proofs.YtoccjnbodoiibaaDoor
open Go.RowKit

set_option maxHeartbeats 4000000 in
set_option maxRecDepth 100000 in
theorem kparse_any (s : ByteArray) (w : World) :
    Calls Tryd.prog 9 #[.string s] w fun e w' => ∃ v, e = .returned (.tuple #[v, .int .i64 (ctQ s.data.toList).2]) ∧
      w'.ownsRow w.heap.size 31 3 v (ctQ s.data.toList).1.length (drs (ctQ s.data.toList).1) ∧ Below w.heap.size w w' := by
  obtain ⟨i1, hi1, hy0, hy1, hy2⟩ := info_parts infoDr
  obtain ⟨P, hP⟩ : ∃ P, (splitS s.data.toList).1 = P := ⟨_, rfl⟩
  obtain ⟨c, hc⟩ : ∃ c, (splitS s.data.toList).2 = c := ⟨_, rfl⟩
  have hsp := split_any s w
  rw [hP, hc] at hsp
  have HSP : Hid (Calls Tryd.prog 20 #[.string s] w fun e w' => ∃ v, e = .returned (.tuple #[v, .int .i64 c]) ∧ w'.ownsRow w.heap.size 9 1 v P.length (strs P) ∧ Below w.heap.size w w') := hsp
  have HQ : Hid (ctQ s.data.toList = if c = 0 then (match paDs P with | none => ([], 3) | some ds => (ds, 0)) else ([], c)) := by
    show _ = _
    unfold ctQ
    rw [hP, hc]
    by_cases h0 : c = 0
    · rw [if_pos h0, if_pos h0]; cases paDs P <;> rfl
    · rw [if_neg h0, if_neg h0]
  have hP20 : P.length ≤ 20 := by rw [← hP]; exact split_len _
  have HPL : Hid (∀ p ∈ P, p.length ≤ 1000) := fun p hp => split_mem s.data.toList p (by rw [hP]; exact hp)
  clear hsp hP hc
  by_cases hc0 : c = 0
  · subst hc0
    rw [if_pos rfl] at HQ
    go_enter Tryd.func9, Tryd.ntmps9
    go_wp2_with fail
    refine HSP.out.mono ?_
    rintro e w1 ⟨v, rfl, hown, hb1⟩
    obtain ⟨ad, cap, hv, hcm, hnc, hcl⟩ := own_form2 hown
    subst hv
    have HCL : Hid (0 < P.length → ∃ g, ad = some ⟨g, 0, none⟩ ∧ w.heap.size ≤ g ∧ g < w1.heap.size ∧ ∀ j, j < P.length * 1 → w1.cell? ⟨g, j, none⟩ = (strs P)[j]?) := hcl
    have HB1 : Hid (Below w.heap.size w w1) := hb1
    have hsz1 := hb1.size
    unfold maxLen at hcm
    clear hown hcl hb1
    go_wp2_with fail
    go_loopw [6, 21] (fun ov i wr => ∃ (k : Nat) (ds : List Dv), k ≤ P.length ∧ i = .int .i64 k ∧ Hid (paDs (P.take k) = some ds) ∧ wr.ownsRow w1.heap.size 31 3 ov ds.length (drs ds) ∧ Below w1.heap.size w1 wr) (fun _ i _ => P.length - (intOf i).toNat)
    case atStart => exact ⟨0, [], Nat.zero_le _, rfl, rfl, World.ownsRow_nil _ _ _ _, Below.refl _ _⟩
    case round =>
      obtain ⟨k, ds, hk, rfl, HDS, hown, hwr⟩ := hrel
      have hszr := hwr.size
      have hdl : ds.length ≤ 20 := by
        have h1 := (paDs_all _ _ HDS.out).1
        have h2 := List.length_take_le k P
        omega
      by_cases hlt : k < P.length
      · obtain ⟨g, rfl, hgB, hgs, hce⟩ := HCL.out (by omega)
        have hcell := (hwr.cell (p := ⟨g, k, none⟩) hgs).trans ((hce k (by omega)).trans (strs_get P k hlt))
        obtain ⟨t, ht⟩ : ∃ t : ByteArray, t = ⟨(P[k]).toArray⟩ := ⟨_, rfl⟩
        rw [← ht] at hcell
        have HT : Hid (t.data.toList = P[k]) := by show _ = _; rw [ht]
        have hts : t.size ≤ 1000 := by rw [← size_list, HT.out]; exact HPL.out _ (List.getElem_mem hlt)
        have hki : (k : Int) < (P.length : Int) := by omega
        have hk0 : (0 : Int) ≤ (k : Int) := by omega
        have hgr : g < wr.heap.size := Nat.lt_of_lt_of_le hgs hszr
        obtain ⟨oad, oc, hov, hom, honc, _⟩ := own_form2 hown
        subst hov
        unfold maxLen at hom
        clear hce ht
        go_wp2_with fail
        refine (kread_at t _ hts).mono ?_
        rintro e w3 ⟨hb3, ⟨hno, n, a, f, rfl⟩ | ⟨n, a, f, hyes, rfl⟩⟩
        · have HNO : Hid (ctQ s.data.toList = ([], 3)) := by
            show _ = _
            rw [HQ.out, paDs_dead P k hlt (by rw [← HT.out]; exact hno)]
          have hwb := HB1.out.trans ((hwr.trans (hb3.mono hszr)).mono hsz1)
          clear hno hb3 hown hwr
          go_wp2_with fail
          go_ret2
          exact ⟨.slice none 0 0, by rw [HNO.out]; try rfl, by rw [HNO.out]; exact World.ownsRow_nil _ _ _ _, hwb.alloc hwb.size _⟩
        · have HN2 : Hid (paDs (P.take (k + 1)) = some (ds ++ [(n.data.toList, f, a.data.toList)])) := paDs_take P k hlt ds HDS.out _ (by rw [← HT.out]; exact hyes)
          have hw4 := hwr.trans (hb3.mono hszr)
          have hown4 := own_below3 hown hb3
          have hsz4 := hw4.size
          clear hyes hb3 hown hwr
          go_wp2_with (at_builtin; refine wpList_append_own _ rfl _ _ 22 rfl w1.heap.size 31 i1 (.agg #[.string ⟨#[]⟩, .bool false, .string ⟨#[]⟩]) 3 40 Tryd.underlying22 hi1 hy0 hy1 hy2 rfl (by decide) _ _ _ rfl ((hown4.alloc _).alloc _) ⟨w3.heap.size + 1, 0, none⟩ 1 1 [.string n, .bool f, .string a] rfl rfl ?c1 ?c2 ?c3 ?c4 ?c5 ?_)
          case c1 =>
            intro j z h
            match j, h with
            | 0, h => simp at h; subst h; simp [Addr.add]
            | 1, h => simp at h; subst h; simp [Addr.add]
            | 2, h => simp at h; subst h; simp [Addr.add]
          case c2 => intro z hx; simp at hx; rcases hx with rfl | rfl | rfl <;> rfl
          case c3 => unfold maxLen; omega
          case c4 => omega
          case c5 => simp; omega
          · intro v' w5 hown' hgrow _
            have hB : Below w1.heap.size w1 w5 := ((hw4.alloc (by omega) _).alloc (by simp; omega) _).grown hgrow (by simp; omega) (fun b hb => (((hown4.alloc (.cells #[.string n, .bool f, .string a] 31)).alloc (.cells #[.string n, .bool f, .string a] 31)).lt b hb).1)
            have hown5 : w5.ownsRow w1.heap.size 31 3 v' (ds ++ [(n.data.toList, f, a.data.toList)]).length (drs (ds ++ [(n.data.toList, f, a.data.toList)])) := by
              rw [← drs_snoc, List.length_append]; exact hown'
            clear hown' hgrow hown4 hw4
            go_wp2_with fail
            go_roundw
            case rel => exact ⟨k + 1, _, by omega, by go_num, HN2, hown5, hB⟩
            case measure => simp [intOf]; omega
      · have HD : Hid (ctQ s.data.toList = (ds, 0)) := by
          have h := HDS.out
          rw [List.take_of_length_le (by omega)] at h
          show _ = _
          rw [HQ.out, h]
        have HO : Hid (wr.ownsRow w1.heap.size 31 3 _ ds.length (drs ds)) := hown
        have hwb := HB1.out.trans (hwr.mono hsz1)
        clear hown hwr
        go_wp2_with fail
        go_ret2
        exact ⟨_, by rw [HD.out]; try rfl, by rw [HD.out]; exact own_le HO.out hsz1, hwb⟩
  · have hcb : (c != 0) = true := by simpa using hc0
    rw [if_neg hc0] at HQ
    clear hc0
    go_enter Tryd.func9, Tryd.ntmps9
    go_wp2_with fail
    refine HSP.out.mono ?_
    rintro e w1 ⟨v, rfl, hown, hb1⟩
    obtain ⟨ad, cap, hv, hcm, hnc, hcl⟩ := own_form2 hown
    subst hv
    clear hown hcl
    go_wp2_with fail
    go_ret2
    exact ⟨.slice none 0 0, by rw [HQ.out]; try rfl, by rw [HQ.out]; exact World.ownsRow_nil _ _ _ _, hb1⟩
end Go.Proofs.YtoccjnbodoiibaaDoor

/-
  What Trim of the document's answers computes, by recursion on the text's length; a text is no longer than Go allows.
-/
namespace Go.Proofs.YtoccjnbodoiibaaDoor
open Go.RowKit

theorem drop_data (s : ByteArray) : (s.extract 1 s.size).data.toList = s.data.toList.drop 1 := by
  rw [Lib.extract_data, List.take_of_length_le (by rw [List.length_drop, size_list]; omega)]
theorem take_data (s : ByteArray) : (s.extract 0 (s.size - 1)).data.toList = s.data.toList.take (s.data.toList.length - 1) := by
  rw [Lib.extract_data, List.drop_zero, size_list]; rfl

set_option maxHeartbeats 2000000 in
set_option maxRecDepth 100000 in
theorem rtrim_at (n : Nat) : ∀ (s t : ByteArray) (w : World), s.size ≤ n → n ≤ 9223372036854775807 → t.data.toList = trimL s.data.toList →
    Calls Tryd.prog 53 #[.string s] w fun e w' => e = .returned (.string t) ∧ Below w.heap.size w w' := by
  induction n using Nat.strongRecOn with
  | _ n ih =>
    intro s t w hn hN ht
    have IH : Hid (∀ m, m < n → ∀ (s t : ByteArray) (w : World), s.size ≤ m → m ≤ 9223372036854775807 → t.data.toList = trimL s.data.toList → Calls Tryd.prog 53 #[.string s] w fun e w' => e = .returned (.string t) ∧ Below w.heap.size w w') :=
      ih
    clear ih
    have HT : Hid (t.data.toList = trimL s.data.toList) := ht
    clear ht
    go_enter Tryd.func53, Tryd.ntmps53
    go_wp2_with fail
    go_loop [7] (fun i => ∃ k : Nat, k ≤ 2 ∧ i = .int .i64 k ∧ (1 ≤ k → Lib.hasPrefix s.data.toList [32] = false ∧ Lib.hasSuffix s.data.toList [32] = false) ∧ (2 ≤ k → Lib.hasPrefix s.data.toList [9] = false ∧ Lib.hasSuffix s.data.toList [9] = false)) (fun i => 2 - (intOf i).toNat)
    case atStart => exact ⟨0, by omega, rfl, fun h => absurd h (by omega), fun h => absurd h (by omega)⟩
    case round =>
      obtain ⟨k, hk, rfl, h1, h2⟩ := hrel
      have HH1 : Hid (1 ≤ k → Lib.hasPrefix s.data.toList [32] = false ∧ Lib.hasSuffix s.data.toList [32] = false) := h1
      have HH2 : Hid (2 ≤ k → Lib.hasPrefix s.data.toList [9] = false ∧ Lib.hasSuffix s.data.toList [9] = false) := h2
      clear h1 h2
      rcases (show k = 0 ∨ k = 1 ∨ k = 2 from by omega) with rfl | rfl | rfl
      · cases hp : Lib.hasPrefix s.data.toList [32]
        · cases hq : Lib.hasSuffix s.data.toList [32]
          · have HP : Hid (Lib.hasPrefix s.data.toList [32] = false) := hp
            have HQ : Hid (Lib.hasSuffix s.data.toList [32] = false) := hq
            clear hp hq
            go_wp2_with fail
            refine (Tryd.strings_HasPrefix s ⟨#[32]⟩ _).mono ?_
            rintro e w1 ⟨rfl, rfl⟩
            rw [show Lib.hasPrefix s.data.toList (⟨#[32]⟩ : ByteArray).data.toList = false from HP.out]
            go_wp2_with fail
            refine (Tryd.strings_HasSuffix s ⟨#[32]⟩ _ (by omega)).mono ?_
            rintro e w1 ⟨rfl, rfl⟩
            rw [show Lib.hasSuffix s.data.toList (⟨#[32]⟩ : ByteArray).data.toList = false from HQ.out]
            go_wp2_with fail
            go_round
            case rel => exact ⟨1, by omega, rfl, fun _ => by first | exact ⟨HP.out, HQ.out⟩ | simp, fun h => absurd h (by omega)⟩
            case measure => simp [intOf]
          · obtain ⟨e1, e2⟩ := trimL_suf _ 32 rfl hq
            rw [size_list] at e2
            have HP : Hid (Lib.hasPrefix s.data.toList [32] = false) := hp
            have HQ : Hid (Lib.hasSuffix s.data.toList [32] = true) := hq
            have HR : Hid (t.data.toList = trimL (s.extract 0 (s.size - 1)).data.toList) := by show _ = _; rw [take_data, e1]; exact HT.out
            have hz : (s.extract 0 (s.size - 1)).size ≤ n - 1 := by rw [ByteArray.size_extract]; omega
            clear hp hq e1
            go_wp2_with fail
            refine (Tryd.strings_HasPrefix s ⟨#[32]⟩ _).mono ?_
            rintro e w1 ⟨rfl, rfl⟩
            rw [show Lib.hasPrefix s.data.toList (⟨#[32]⟩ : ByteArray).data.toList = false from HP.out]
            go_wp2_with fail
            refine (Tryd.strings_HasSuffix s ⟨#[32]⟩ _ (by omega)).mono ?_
            rintro e w1 ⟨rfl, rfl⟩
            rw [show Lib.hasSuffix s.data.toList (⟨#[32]⟩ : ByteArray).data.toList = true from HQ.out]
            go_wp2_with fail
            refine (IH.out (n - 1) (by omega) _ t _ hz (by omega) HR.out).mono ?_
            rintro e w2 ⟨rfl, hb⟩
            go_wp2_with fail
            go_ret
            exact ⟨rfl, ((Below.refl _ w).alloc (Nat.le_refl _) _).trans (hb.mono (by simp))⟩
        · obtain ⟨e1, e2⟩ := trimL_pre _ 32 rfl hp
          rw [size_list] at e2
          have HP : Hid (Lib.hasPrefix s.data.toList [32] = true) := hp
          have HR : Hid (t.data.toList = trimL (s.extract 1 s.size).data.toList) := by show _ = _; rw [drop_data, e1]; exact HT.out
          have hz : (s.extract 1 s.size).size ≤ n - 1 := by rw [ByteArray.size_extract]; omega
          clear hp e1
          go_wp2_with fail
          refine (Tryd.strings_HasPrefix s ⟨#[32]⟩ _).mono ?_
          rintro e w1 ⟨rfl, rfl⟩
          rw [show Lib.hasPrefix s.data.toList (⟨#[32]⟩ : ByteArray).data.toList = true from HP.out]
          go_wp2_with fail
          refine (IH.out (n - 1) (by omega) _ t _ hz (by omega) HR.out).mono ?_
          rintro e w2 ⟨rfl, hb⟩
          go_wp2_with fail
          go_ret
          exact ⟨rfl, ((Below.refl _ w).alloc (Nat.le_refl _) _).trans (hb.mono (by simp))⟩
      · cases hp : Lib.hasPrefix s.data.toList [9]
        · cases hq : Lib.hasSuffix s.data.toList [9]
          · have HP : Hid (Lib.hasPrefix s.data.toList [9] = false) := hp
            have HQ : Hid (Lib.hasSuffix s.data.toList [9] = false) := hq
            clear hp hq
            go_wp2_with fail
            refine (Tryd.strings_HasPrefix s ⟨#[9]⟩ _).mono ?_
            rintro e w1 ⟨rfl, rfl⟩
            rw [show Lib.hasPrefix s.data.toList (⟨#[9]⟩ : ByteArray).data.toList = false from HP.out]
            go_wp2_with fail
            refine (Tryd.strings_HasSuffix s ⟨#[9]⟩ _ (by omega)).mono ?_
            rintro e w1 ⟨rfl, rfl⟩
            rw [show Lib.hasSuffix s.data.toList (⟨#[9]⟩ : ByteArray).data.toList = false from HQ.out]
            go_wp2_with fail
            go_round
            case rel => exact ⟨2, by omega, rfl, fun _ => HH1.out (by omega), fun _ => by first | exact ⟨HP.out, HQ.out⟩ | simp⟩
            case measure => simp [intOf]
          · obtain ⟨e1, e2⟩ := trimL_suf _ 9 rfl hq
            rw [size_list] at e2
            have HP : Hid (Lib.hasPrefix s.data.toList [9] = false) := hp
            have HQ : Hid (Lib.hasSuffix s.data.toList [9] = true) := hq
            have HR : Hid (t.data.toList = trimL (s.extract 0 (s.size - 1)).data.toList) := by show _ = _; rw [take_data, e1]; exact HT.out
            have hz : (s.extract 0 (s.size - 1)).size ≤ n - 1 := by rw [ByteArray.size_extract]; omega
            clear hp hq e1
            go_wp2_with fail
            refine (Tryd.strings_HasPrefix s ⟨#[9]⟩ _).mono ?_
            rintro e w1 ⟨rfl, rfl⟩
            rw [show Lib.hasPrefix s.data.toList (⟨#[9]⟩ : ByteArray).data.toList = false from HP.out]
            go_wp2_with fail
            refine (Tryd.strings_HasSuffix s ⟨#[9]⟩ _ (by omega)).mono ?_
            rintro e w1 ⟨rfl, rfl⟩
            rw [show Lib.hasSuffix s.data.toList (⟨#[9]⟩ : ByteArray).data.toList = true from HQ.out]
            go_wp2_with fail
            refine (IH.out (n - 1) (by omega) _ t _ hz (by omega) HR.out).mono ?_
            rintro e w2 ⟨rfl, hb⟩
            go_wp2_with fail
            go_ret
            exact ⟨rfl, ((Below.refl _ w).alloc (Nat.le_refl _) _).trans (hb.mono (by simp))⟩
        · obtain ⟨e1, e2⟩ := trimL_pre _ 9 rfl hp
          rw [size_list] at e2
          have HP : Hid (Lib.hasPrefix s.data.toList [9] = true) := hp
          have HR : Hid (t.data.toList = trimL (s.extract 1 s.size).data.toList) := by show _ = _; rw [drop_data, e1]; exact HT.out
          have hz : (s.extract 1 s.size).size ≤ n - 1 := by rw [ByteArray.size_extract]; omega
          clear hp e1
          go_wp2_with fail
          refine (Tryd.strings_HasPrefix s ⟨#[9]⟩ _).mono ?_
          rintro e w1 ⟨rfl, rfl⟩
          rw [show Lib.hasPrefix s.data.toList (⟨#[9]⟩ : ByteArray).data.toList = true from HP.out]
          go_wp2_with fail
          refine (IH.out (n - 1) (by omega) _ t _ hz (by omega) HR.out).mono ?_
          rintro e w2 ⟨rfl, hb⟩
          go_wp2_with fail
          go_ret
          exact ⟨rfl, ((Below.refl _ w).alloc (Nat.le_refl _) _).trans (hb.mono (by simp))⟩
      · go_wp2_with fail
        go_ret
        obtain ⟨p1, p2⟩ := HH1.out (by omega)
        obtain ⟨p3, p4⟩ := HH2.out (by omega)
        refine ⟨ret_str ?_, (Below.refl _ w).alloc (Nat.le_refl _) _⟩
        apply ByteArray.ext
        apply Array.ext'
        rw [HT.out, trimL_none _ p1 p2 p3 p4]
end Go.Proofs.YtoccjnbodoiibaaDoor

/-
  What parts of the document's answers computes: the pieces between the signs that are not within quotes, each without the blanks at its ends; the text has at most 1000 bytes.
-/
namespace Go.Proofs.YtoccjnbodoiibaaDoor
open Go.RowKit

theorem own_form {w : World} {B : Nat} {v : Value} {n : Nat} {xs : List Value} (h : w.ownsRow B 9 1 v n xs) (hn : 0 < n) : ∃ g cap, v = .slice (some ⟨g, 0, none⟩) n cap ∧ B ≤ g ∧ g < w.heap.size ∧ n ≤ cap ∧ cap ≤ maxLen := by
  rcases h.2 with ⟨_, h0⟩ | ⟨g, cap, cur, hv, hb, hg, hnc, hcm, _, _⟩
  · omega
  · refine ⟨g, cap, hv, hb, ?_, hnc, hcm⟩
    exact (Array.getElem?_eq_some_iff.1 hg).1

theorem set_last (ps : List (List UInt8)) (cur : List UInt8) (c : UInt8) : (strs (ps ++ [cur])).set ps.length (.string ⟨(cur ++ [c]).toArray⟩) = strs (ps ++ [cur ++ [c]]) := by
  rw [← strs_snoc, ← strs_snoc, List.set_append_right _ _ (by rw [strs_length]; exact Nat.le_refl _), strs_length, Nat.sub_self]; rfl
theorem get_last (ps : List (List UInt8)) (cur : List UInt8) : (strs (ps ++ [cur]))[ps.length]? = some (.string ⟨cur.toArray⟩) := by
  rw [← strs_snoc, List.getElem?_append_right (by rw [strs_length]; exact Nat.le_refl _), strs_length, Nat.sub_self]; rfl
theorem app_cur (cur : List UInt8) (c : UInt8) : (⟨cur.toArray⟩ : ByteArray) ++ ⟨#[c]⟩ = ⟨(cur ++ [c]).toArray⟩ := by
  rw [ByteArray.mk_append_mk]
theorem cur_len (sep : UInt8) (l : List UInt8) : (cutS sep l).cur.length ≤ l.length := by
  have gen : ∀ (l : List UInt8) (x : Cut), (l.foldl (cstep sep) x).cur.length ≤ x.cur.length + l.length := by
    intro l
    induction l with
    | nil => intro x; simp
    | cons c l ih =>
      intro x
      rw [List.foldl_cons]
      have h := ih (cstep sep x c)
      have h2 : (cstep sep x c).cur.length ≤ x.cur.length + 1 := by unfold cstep; split <;> simp
      rw [List.length_cons]
      omega
  have := gen l ⟨[], [], false, false⟩
  simpa [cutS] using this
theorem one_eq (s : ByteArray) (k : Nat) (h : k < s.size) (d : UInt8) (b : Bool) (hb : decide ((s[k].toNat : Int) = (d.toNat : Int)) = b) : ((s.extract k (k + 1)).toList == [d]) = b := by
  have e : (s.extract k (k + 1)).toList = [s[k]] := by rw [extract_one s k h, ByteArray.toList_eq]
  rw [e, ← hb, Bool.eq_iff_iff]
  simp
  constructor
  · intro e; rw [e]
  · intro e; exact eq_of_int _ d (by omega)
theorem one_eq2 (s : ByteArray) (k : Nat) (h : k < s.size) (d : UInt8) (b : Bool) (hb : decide ((s[k].toNat : Int) = (d.toNat : Int)) = b) : ((s.extract k (k + 1)).toList == (⟨#[d]⟩ : ByteArray).toList) = b := by
  rw [ByteArray.toList_eq ⟨#[d]⟩]; exact one_eq s k h d b hb
theorem cstep_else' (sep : UInt8) (ps : List (List UInt8)) (cur : List UInt8) (q cn : Bool) (c : UInt8) (h1 : ¬ (c = sep ∧ q = false)) :
    cstep sep ⟨ps, cur, q, cn⟩ c = ⟨ps, cur ++ [c], if cn = true then q else if c = 34 then !q else q, if cn = true then false else if c = 34 then false else if c = 92 then q else false⟩ := by
  unfold cstep; rw [if_neg h1]

theorem own_below {w w1 : World} {B : Nat} {e : TypeId} {v : Value} {n : Nat} {xs : List Value} (h : w.ownsRow B e 1 v n xs) (hb : Below w.heap.size w w1) : w1.ownsRow B e 1 v n xs := by
  refine ⟨h.1, ?_⟩
  rcases h.2 with h0 | ⟨g, cap, cur, hv, hB, hg, h3⟩
  · exact .inl h0
  · exact .inr ⟨g, cap, cur, hv, hB, (hb.block g (Array.getElem?_eq_some_iff.1 hg).1).trans hg, h3⟩
theorem cell_block' {w : World} {a : Addr} {v : Value} (h : w.cell? a = some v) : a.block < w.heap.size := by
  rcases Nat.lt_or_ge a.block w.heap.size with h1 | h1
  · exact h1
  · exfalso
    unfold World.cell? at h
    rw [Array.getElem?_eq_none h1] at h
    simp at h
theorem cstep_sep' (sep : UInt8) (ps : List (List UInt8)) (cur : List UInt8) (cn : Bool) (c : UInt8) (hc : c = sep) : cstep sep ⟨ps, cur, false, cn⟩ c = ⟨ps ++ [cur], [], false, cn⟩ := by
  simp [cstep, hc]

/-- What the second loop has done after k rounds. -/
def half (P : List (List UInt8)) (k : Nat) : List (List UInt8) := (P.take k).map trimL ++ P.drop k
theorem half_len (P : List (List UInt8)) (k : Nat) (h : k ≤ P.length) : (half P k).length = P.length := by
  simp [half]; omega
theorem half_get (P : List (List UInt8)) (k : Nat) (h : k < P.length) : (strs (half P k))[k]? = some (.string ⟨P[k].toArray⟩) := by
  have hl : (half P k)[k]? = some P[k] := by
    unfold half
    rw [List.getElem?_append_right (by simp; omega)]
    simp [List.length_take, Nat.min_eq_left (Nat.le_of_lt h), h]
  unfold strs
  rw [List.getElem?_map, hl]; rfl
theorem half_at (P : List (List UInt8)) (k : Nat) (h : k < P.length) : half P k = (P.take k).map trimL ++ P[k] :: P.drop (k + 1) ∧ half P (k + 1) = (P.take k).map trimL ++ trimL P[k] :: P.drop (k + 1) := by
  refine ⟨by unfold half; rw [List.drop_eq_getElem_cons h], ?_⟩
  unfold half
  rw [List.take_succ_eq_append_getElem h, List.map_append, List.append_assoc]; rfl
theorem half_set (P : List (List UInt8)) (k : Nat) (h : k < P.length) : (strs (half P k)).set k (.string ⟨(trimL P[k]).toArray⟩) = strs (half P (k + 1)) := by
  obtain ⟨e1, e2⟩ := half_at P k h
  have hl : (strs ((P.take k).map trimL)).length = k := by simp [strs]; omega
  have ea : strs (half P k) = strs ((P.take k).map trimL) ++ Value.string ⟨P[k].toArray⟩ :: strs (P.drop (k + 1)) := by rw [e1]; unfold strs; rw [List.map_append, List.map_cons]
  have eb : strs (half P (k + 1)) = strs ((P.take k).map trimL) ++ Value.string ⟨(trimL P[k]).toArray⟩ :: strs (P.drop (k + 1)) := by rw [e2]; unfold strs; rw [List.map_append, List.map_cons]
  rw [ea, eb, List.set_append_right _ _ (by omega), hl, Nat.sub_self, List.set_cons_zero]
theorem half_all (P : List (List UInt8)) : half P P.length = P.map trimL := by simp [half]

set_option maxHeartbeats 4000000 in
set_option maxRecDepth 100000 in
theorem rparts_any (s : ByteArray) (sep : UInt8) (w : World) (hs : s.size ≤ 1000) :
    Calls Tryd.prog 38 #[.string s, .string ⟨#[sep]⟩] w fun e w' => ∃ v, e = .returned (.tuple #[v, .bool (ends sep s.data.toList)]) ∧
      w'.ownsRow w.heap.size 9 1 v (pieces sep s.data.toList).length (strs ((pieces sep s.data.toList).map trimL)) ∧ Below w.heap.size w w' := by
  obtain ⟨i0, hi, hz0, hz1, hz2⟩ := info_parts info9
  have hst : (w.alloc (.cells #[.string ⟨#[]⟩] 9)).ownsRow w.heap.size 9 1 (.slice (some ⟨w.heap.size, 0, none⟩) 1 1) (0 + 1) (strs ([] ++ [([] : List UInt8)])) :=
    World.ownsRow_lit w #[.string ⟨#[]⟩] 1 (Nat.le_refl _) (by unfold maxLen; omega) rfl
  go_enter Tryd.func38, Tryd.ntmps38
  go_wp2_with fail
  go_loopw [6, 7, 8, 15] (fun v qv cv i wr => ∃ (k : Nat) (ps : List (List UInt8)) (cur : List UInt8) (q cn : Bool) , k ≤ s.size ∧ i = .int .i64 k ∧ qv = .bool q ∧ cv = .bool cn ∧
      cutS sep (s.data.toList.take k) = ⟨ps, cur, q, cn⟩ ∧ wr.ownsRow w.heap.size 9 1 v (ps.length + 1) (strs (ps ++ [cur])) ∧ Below w.heap.size w wr) (fun _ _ _ i _ => s.size - (intOf i).toNat)
  case atStart => exact ⟨0, [], [], false, false, by omega, rfl, rfl, rfl, rfl, hst, (Below.refl _ w).alloc (Nat.le_refl _) _⟩
  case round =>
    obtain ⟨k, ps, cur, q, cn, hk, rfl, rfl, rfl, hcut, hown, hw⟩ := hrel
    clear hst
    have hpl : ps.length ≤ 1000 ∧ cur.length ≤ 1000 := by
      have h1 := cutS_len sep (s.data.toList.take k)
      have h1' := cur_len sep (s.data.toList.take k)
      have h2 := List.length_take_le k s.data.toList
      rw [hcut] at h1 h1'
      simp only at h1 h1'
      omega
    obtain ⟨hpl, hcl⟩ := hpl
    have hsz := hw.size
    have HC : Hid (cutS sep (s.data.toList.take k) = ⟨ps, cur, q, cn⟩) := hcut
    clear hcut
    obtain ⟨g, cap, hv, hgB, hgs, hnc, hcm⟩ := own_form hown (by omega)
    have hcell : wr.cell? ⟨g, ps.length, none⟩ = some (.string ⟨cur.toArray⟩) := by
      rw [hv] at hown
      rw [hown.cellAt ps.length (by omega)]
      exact get_last ps cur
    have hfz : wr.frozen? ⟨g, ps.length, none⟩ = false := by
      rw [hv] at hown
      exact hown.frozenAt ps.length
    obtain ⟨t, ht⟩ : ∃ t : ByteArray, t = ⟨cur.toArray⟩ := ⟨_, rfl⟩
    have hts : t.size ≤ 1000 := by rw [ht, ← size_list]; exact hcl
    rw [← ht] at hcell
    have HT : Hid (t = ⟨cur.toArray⟩) := ht
    subst hv
    unfold maxLen at hcm
    clear ht
    by_cases hlt : k < s.size
    · have hc1 : (s[k].toNat : Int) < 256 := by have := s[k].toNat_lt; omega
      have HSN : Hid (∀ x, cstep sep ⟨ps, cur, q, cn⟩ s[k] = x → cutS sep (s.data.toList.take (k + 1)) = x) := by
        intro x hx
        rw [take_snoc s k hlt, cutS_snoc, HC.out, hx]
      have HST : Hid ((wr.setCell ⟨g, ps.length, none⟩ (.string (t ++ s.extract k (k + 1)))).ownsRow w.heap.size 9 1 (.slice (some ⟨g, 0, none⟩) (ps.length + 1) cap) (ps.length + 1) (strs (ps ++ [cur ++ [s[k]]])) ∧ Below w.heap.size w (wr.setCell ⟨g, ps.length, none⟩ (.string (t ++ s.extract k (k + 1))))) := by
        refine ⟨?_, hw.setCell (p := ⟨g, ps.length, none⟩) hgB _⟩
        have h := (hown.stored ps.length (.string (t ++ s.extract k (k + 1)))).1
        have e : t ++ s.extract k (k + 1) = ⟨(cur ++ [s[k]]).toArray⟩ := by rw [HT.out, extract_one s k hlt, app_cur]
        rw [e, set_last] at h
        rw [e]
        exact h
      by_cases hsep : (s[k].toNat : Int) = (sep.toNat : Int)
      · have hd1 := one_eq s k hlt sep true (decide_eq_true hsep)
        have hd1' := one_eq2 s k hlt sep true (decide_eq_true hsep)
        have HSP : Hid (s[k] = sep) := eq_of_int _ _ hsep
        cases q
        · clear hsep
          go_wp2_with (at_builtin; refine wpList_append_own _ rfl _ _ 47 rfl w.heap.size 9 i0 (.string ⟨#[]⟩) 1 16 Tryd.underlying47 hi hz0 hz1 hz2 rfl (by decide) _ _ _ rfl (hown.alloc _) ⟨wr.heap.size, 0, none⟩ 1 1 [.string ⟨#[]⟩] rfl rfl ?c1 ?c2 ?c3 ?c4 ?c5 ?_)
          case c1 => exact one_cell _ _ _
          case c2 => intro u hu; simp at hu; subst hu; rfl
          case c3 => unfold maxLen; omega
          case c4 => omega
          case c5 => simp; omega
          · intro v' w1 hown' hgrow _
            have hB : Below w.heap.size w w1 := (hw.alloc (by omega) _).grown hgrow (by simp; omega) (fun b hb => ((hown.alloc (.cells #[.string ⟨#[]⟩] 9)).lt b hb).1)
            have hown2 : w1.ownsRow w.heap.size 9 1 v' ((ps ++ [cur]).length + 1) (strs (ps ++ [cur] ++ [[]])) := by
              rw [← strs_snoc, List.length_append]; exact hown'
            clear hown' hgrow hown hw HST
            go_wp2_with fail
            go_roundw
            case rel => exact ⟨k + 1, ps ++ [cur], [], false, cn, by omega, by go_num, rfl, rfl, HSN.out _ (cstep_sep' sep _ _ _ _ HSP.out), hown2, hB⟩
            case measure => simp [intOf]; omega
        · have HE := HSN.out _ (cstep_else' sep ps cur true cn s[k] (fun h => by cases h.2))
          have HEE : Hid (cutS sep (s.data.toList.take (k + 1)) = _) := HE
          clear HE hsep HSN hown hw
          cases cn
          · by_cases h34 : (s[k].toNat : Int) = 34
            · have hd2 := one_eq s k hlt 34 true (decide_eq_true h34)
              have H34 : Hid (s[k] = 34) := eq_of_int _ 34 h34
              clear h34
              go_wp2_with fail
              go_roundw
              case rel => exact ⟨k + 1, ps, cur ++ [s[k]], false, false, by omega, by go_num, rfl, rfl, by rw [HEE.out, H34.out]; rfl, HST.out.1, HST.out.2⟩
              case measure => simp [intOf]; omega
            · have hd2 := one_eq s k hlt 34 false (decide_eq_false h34)
              have H34 : Hid (s[k] ≠ 34) := ne_of_int _ 34 h34
              clear h34
              by_cases h92 : (s[k].toNat : Int) = 92
              · have hd3 := one_eq s k hlt 92 true (decide_eq_true h92)
                have H92 : Hid (s[k] = 92) := eq_of_int _ 92 h92
                clear h92
                go_wp2_with fail
                go_roundw
                case rel => exact ⟨k + 1, ps, cur ++ [s[k]], true, true, by omega, by go_num, rfl, rfl, by rw [HEE.out, H92.out]; rfl, HST.out.1, HST.out.2⟩
                case measure => simp [intOf]; omega
              · have hd3 := one_eq s k hlt 92 false (decide_eq_false h92)
                have H92 : Hid (s[k] ≠ 92) := ne_of_int _ 92 h92
                clear h92
                go_wp2_with fail
                go_roundw
                case rel => exact ⟨k + 1, ps, cur ++ [s[k]], true, false, by omega, by go_num, rfl, rfl, by rw [HEE.out, if_neg H34.out, if_neg H34.out, if_neg H92.out]; rfl, HST.out.1, HST.out.2⟩
                case measure => simp [intOf]; omega
          · go_wp2_with fail
            go_roundw
            case rel => exact ⟨k + 1, ps, cur ++ [s[k]], true, false, by omega, by go_num, rfl, rfl, HEE.out, HST.out.1, HST.out.2⟩
            case measure => simp [intOf]; omega
      · have hd1 := one_eq s k hlt sep false (decide_eq_false hsep)
        have hd1' := one_eq2 s k hlt sep false (decide_eq_false hsep)
        have HE := HSN.out _ (cstep_else' sep ps cur q cn s[k] (fun h => ne_of_int _ _ hsep h.1))
        have HEE : Hid (cutS sep (s.data.toList.take (k + 1)) = _) := HE
        clear HE hsep HSN hown hw
        cases cn
        · by_cases h34 : (s[k].toNat : Int) = 34
          · have hd2 := one_eq s k hlt 34 true (decide_eq_true h34)
            have H34 : Hid (s[k] = 34) := eq_of_int _ 34 h34
            clear h34
            cases q
            all_goals
              go_wp2_with fail
              go_roundw
              case rel => exact ⟨k + 1, ps, cur ++ [s[k]], _, false, by omega, by go_num, rfl, rfl, by rw [HEE.out, H34.out]; rfl, HST.out.1, HST.out.2⟩
              case measure => simp [intOf]; omega
          · have hd2 := one_eq s k hlt 34 false (decide_eq_false h34)
            have H34 : Hid (s[k] ≠ 34) := ne_of_int _ 34 h34
            clear h34
            by_cases h92 : (s[k].toNat : Int) = 92
            · have hd3 := one_eq s k hlt 92 true (decide_eq_true h92)
              have H92 : Hid (s[k] = 92) := eq_of_int _ 92 h92
              clear h92
              cases q
              all_goals
                go_wp2_with fail
                go_roundw
                case rel => exact ⟨k + 1, ps, cur ++ [s[k]], _, _, by omega, by go_num, rfl, rfl, by rw [HEE.out, H92.out]; rfl, HST.out.1, HST.out.2⟩
                case measure => simp [intOf]; omega
            · have hd3 := one_eq s k hlt 92 false (decide_eq_false h92)
              have H92 : Hid (s[k] ≠ 92) := ne_of_int _ 92 h92
              clear h92
              cases q
              all_goals
                go_wp2_with fail
                go_roundw
                case rel => exact ⟨k + 1, ps, cur ++ [s[k]], _, false, by omega, by go_num, rfl, rfl, by rw [HEE.out, if_neg H34.out, if_neg H34.out, if_neg H92.out]; rfl, HST.out.1, HST.out.2⟩
                case measure => simp [intOf]; omega
        · cases q
          all_goals
            go_wp2_with fail
            go_roundw
            case rel => exact ⟨k + 1, ps, cur ++ [s[k]], _, false, by omega, by go_num, rfl, rfl, HEE.out, HST.out.1, HST.out.2⟩
            case measure => simp [intOf]; omega
    · have HE : Hid (cutS sep s.data.toList = ⟨ps, cur, q, cn⟩) := by
        show cutS sep s.data.toList = _
        have h := HC.out
        rw [List.take_of_length_le (by rw [size_list]; omega)] at h
        exact h
      have HEN : Hid (ends sep s.data.toList = !q) := by show _ = _; unfold ends; rw [HE.out]
      have HPI : Hid (pieces sep s.data.toList = ps ++ [cur]) := by show _ = _; unfold pieces; rw [HE.out]
      obtain ⟨wo, rfl⟩ : ∃ wo : World, wo = wr := ⟨_, rfl⟩
      clear hcell hfz HC hcl
      go_wp2_with fail
      go_loopw [56] (fun i wr => ∃ j : Nat, j ≤ ps.length + 1 ∧ i = .int .i64 j ∧ wr.ownsRow w.heap.size 9 1 (.slice (some ⟨g, 0, none⟩) (ps.length + 1) cap) (ps.length + 1) (strs (half (ps ++ [cur]) j)) ∧ Below w.heap.size w wr) (fun i _ => ps.length + 1 - (intOf i).toNat)
      case atStart => exact ⟨0, by omega, rfl, by simpa [half] using hown, hw⟩
      case round =>
        obtain ⟨j, hj, rfl, hown2, hw2⟩ := hrel
        clear hown hw
        have hsz2 := hw2.size
        by_cases hjt : j < ps.length + 1
        · have hjP : j < (ps ++ [cur]).length := by simp; omega
          have hcell : wr.cell? ⟨g, j, none⟩ = some (.string ⟨((ps ++ [cur])[j]).toArray⟩) := by
            rw [hown2.cellAt j (by omega)]
            exact half_get _ j hjP
          obtain ⟨u, hu⟩ : ∃ u : ByteArray, u = ⟨((ps ++ [cur])[j]).toArray⟩ := ⟨_, rfl⟩
          rw [← hu] at hcell
          obtain ⟨u', hu'⟩ : ∃ u' : ByteArray, u' = ⟨(trimL (ps ++ [cur])[j]).toArray⟩ := ⟨_, rfl⟩
          have hus : u.size ≤ 1000 := by
            rw [hu, ← size_list]
            have := pieces_len sep s.data.toList (ps ++ [cur])[j] (by rw [HPI.out]; exact List.getElem_mem hjP)
            rw [size_list] at this
            show ((ps ++ [cur])[j]).length ≤ 1000
            omega
          have HU : Hid (u'.data.toList = trimL u.data.toList) := by show _ = _; rw [hu, hu']
          have HU' : Hid (u' = ⟨(trimL (ps ++ [cur])[j]).toArray⟩) := hu'
          clear hu hu'
          go_wp2_with fail
          refine (rtrim_at 1000 _ u' _ hus (by omega) HU.out).mono ?_
          rintro e w1 ⟨rfl, hb⟩
          have hown3 := own_below hown2 hb
          have hcell3 : w1.cell? ⟨g, j, none⟩ = some (.string u) := (hb.cell (cell_block' hcell)).trans hcell
          have hfz3 := hown3.frozenAt j
          have hw3 := hw2.trans (hb.mono hw2.size)
          have HST : Hid ((w1.setCell ⟨g, j, none⟩ (.string u')).ownsRow w.heap.size 9 1 (.slice (some ⟨g, 0, none⟩) (ps.length + 1) cap) (ps.length + 1) (strs (half (ps ++ [cur]) (j + 1))) ∧ Below w.heap.size w (w1.setCell ⟨g, j, none⟩ (.string u'))) := by
            refine ⟨?_, hw3.setCell (p := ⟨g, j, none⟩) hgB _⟩
            have h := (hown3.stored j (.string u')).1
            rw [HU'.out, half_set _ j hjP] at h
            rw [HU'.out]
            exact h
          clear hown3 hown2 hw2 hw3 hb hcell
          go_wp2_with fail
          go_roundw
          case rel => exact ⟨j + 1, by omega, by go_num, HST.out.1, HST.out.2⟩
          case measure => simp [intOf]; omega
        · obtain rfl : j = ps.length + 1 := by omega
          go_wp2_with fail
          go_ret2
          refine ⟨.slice (some ⟨g, 0, none⟩) (ps.length + 1) cap, by rw [HEN.out]; rfl, ?_, hw2⟩
          rw [HPI.out, ← half_all]
          have e : (ps ++ [cur]).length = ps.length + 1 := by simp
          rw [e]
          exact hown2
end Go.Proofs.YtoccjnbodoiibaaDoor

/-
  What Split of the document's answers computes; the text is no longer than Go allows.
-/
namespace Go.Proofs.YtoccjnbodoiibaaDoor
open Go.RowKit

def full (P : List (List UInt8)) : List (List UInt8) := P.filter (fun p => !p.isEmpty)
theorem full_snoc (P : List (List UInt8)) (p : List UInt8) : full (P ++ [p]) = if p.isEmpty = true then full P else full P ++ [p] := by
  unfold full
  rw [List.filter_append]
  cases h : p.isEmpty <;> simp [h]
theorem full_len (P : List (List UInt8)) : (full P).length ≤ P.length := List.length_filter_le _ _
theorem full_kept (P : List (List UInt8)) : full (P.map trimL) = kept P := rfl

set_option maxHeartbeats 4000000 in
set_option maxRecDepth 100000 in
theorem rsplit_any (s : ByteArray) (w : World) :
    Calls Tryd.prog 22 #[.string s] w fun e w' => ∃ v, e = .returned (.tuple #[v, .int .i64 (splitS s.data.toList).2]) ∧
      w'.ownsRow w.heap.size 9 1 v (splitS s.data.toList).1.length (strs (splitS s.data.toList).1) ∧ Below w.heap.size w w' := by
  obtain ⟨i0, hi, hz0, hz1, hz2⟩ := info_parts info9
  by_cases h1 : 1000 < (s.size : Int)
  · have HL : Hid (splitS s.data.toList = ([], 2)) := by show _ = _; unfold splitS; rw [if_pos (by rw [size_list]; omega)]
    go_enter Tryd.func22, Tryd.ntmps22
    go_wp2_with fail
    go_ret2
    exact ⟨.slice none 0 0, by rw [HL.out]; rfl, by rw [HL.out]; exact World.ownsRow_nil _ _ _ _, Below.refl _ _⟩
  · have hs : s.size ≤ 1000 := by omega
    have HL : Hid (¬ 1000 < s.data.toList.length) := by show ¬ _; rw [size_list]; omega
    clear h1
    cases he : ends 44 s.data.toList
    · have HE : Hid (ends 44 s.data.toList = false) := he
      have HS : Hid (splitS s.data.toList = ([], 3)) := by show _ = _; unfold splitS; rw [if_neg HL.out, if_pos he]
      clear he
      go_enter Tryd.func22, Tryd.ntmps22
      go_wp2_with fail
      refine (rparts_any s 44 _ hs).mono ?_
      rintro e w1 ⟨v, rfl, hown, hb⟩
      rw [HE.out]
      go_wp2_with fail
      go_ret2
      exact ⟨.slice none 0 0, by rw [HS.out]; rfl, by rw [HS.out]; exact World.ownsRow_nil _ _ _ _, hb⟩
    · have HE : Hid (ends 44 s.data.toList = true) := he
      have HS : Hid (splitS s.data.toList = if 20 < (kept (pieces 44 s.data.toList)).length then ([], 2) else (kept (pieces 44 s.data.toList), 0)) := by
        show _ = _; unfold splitS; rw [if_neg HL.out, if_neg (by rw [he]; simp)]
      clear he
      obtain ⟨P, hP⟩ : ∃ P, P = (pieces 44 s.data.toList).map trimL := ⟨_, rfl⟩
      have HP : Hid (P = (pieces 44 s.data.toList).map trimL) := hP
      have HK : Hid (kept (pieces 44 s.data.toList) = full P) := by show _ = _; rw [hP, full_kept]
      have HPL : Hid ((pieces 44 s.data.toList).length = P.length) := by show _ = _; rw [hP]; simp
      have hPl : P.length ≤ 1001 := by
        rw [hP]; unfold pieces
        have := cutS_len 44 s.data.toList
        rw [size_list] at this
        simp; omega
      clear hP
      go_enter Tryd.func22, Tryd.ntmps22
      go_wp2_with fail
      refine (rparts_any s 44 _ hs).mono ?_
      rintro e w1 ⟨v, rfl, hown, hb⟩
      rw [HE.out]
      rw [← HP.out, HPL.out] at hown
      obtain ⟨ad, cap, hv, hcm, hnc, hcells⟩ := own_slice hown
      subst hv
      unfold maxLen at hcm
      have HCL : Hid (0 < P.length → ∃ g, ad = some ⟨g, 0, none⟩ ∧ w.heap.size ≤ g ∧ g < w1.heap.size ∧ ∀ j, j < P.length → w1.cell? ⟨g, j, none⟩ = (strs P)[j]?) := hcells
      have hbs := hb.size
      clear hcells hown
      go_wp2_with fail
      go_loopw [6, 21] (fun v i wr => ∃ k : Nat, k ≤ P.length ∧ i = .int .i64 k ∧ wr.ownsRow w1.heap.size 9 1 v (full (P.take k)).length (strs (full (P.take k))) ∧ Below w1.heap.size w1 wr) (fun _ i _ => P.length - (intOf i).toNat)
      case atStart => exact ⟨0, by omega, rfl, World.ownsRow_nil _ _ _ _, Below.refl _ _⟩
      case round =>
        obtain ⟨k, hk, rfl, hown, hw⟩ := hrel
        have hsz := hw.size
        have hkl : (full (P.take k)).length ≤ 1001 := by
          have h1 := full_len (P.take k)
          have h2 := List.length_take_le k P
          omega
        by_cases hlt : k < P.length
        · obtain ⟨g, rfl, hgB, hgs, hce⟩ := HCL.out (by omega)
          have hcell : wr.cell? ⟨g, k, none⟩ = some (.string ⟨(P[k]).toArray⟩) := by
            rw [hw.cell (p := ⟨g, k, none⟩) hgs, hce k hlt]
            exact strs_get P k hlt
          obtain ⟨u, hu⟩ : ∃ u : ByteArray, u = ⟨(P[k]).toArray⟩ := ⟨_, rfl⟩
          rw [← hu] at hcell
          have HU : Hid (u = ⟨(P[k]).toArray⟩) := hu
          have HKS : Hid (full (P.take (k + 1)) = if (P[k]).isEmpty = true then full (P.take k) else full (P.take k) ++ [P[k]]) := by
            show _ = _; rw [take_one P k hlt, full_snoc]
          clear hce hu
          cases hem : u.toList.isEmpty
          · have HEM : Hid ((P[k]).isEmpty = false) := by
              show _ = _
              rw [ByteArray.toList_eq, HU.out] at hem
              exact hem
            go_wp2_with (at_builtin; refine wpList_append_own _ rfl _ _ 47 rfl w1.heap.size 9 i0 (.string ⟨#[]⟩) 1 16 Tryd.underlying47 hi hz0 hz1 hz2 rfl (by decide) _ _ _ rfl (hown.alloc _) ⟨wr.heap.size, 0, none⟩ 1 1 [.string u] rfl rfl ?c1 ?c2 ?c3 ?c4 ?c5 ?_)
            case c1 => exact one_cell _ _ _
            case c2 => intro x hx; simp at hx; subst hx; rfl
            case c3 => unfold maxLen; omega
            case c4 => omega
            case c5 => simp; omega
            · intro v' w4 hown' hgrow _
              have hB : Below w1.heap.size w1 w4 := (hw.alloc (by omega) _).grown hgrow (by simp; omega) (fun b hb => ((hown.alloc (.cells #[.string u] 9)).lt b hb).1)
              have hown4 : w4.ownsRow w1.heap.size 9 1 v' (full (P.take (k + 1))).length (strs (full (P.take (k + 1)))) := by
                rw [HKS.out, HEM.out]
                simp only [Bool.false_eq_true, if_false]
                rw [← strs_snoc, List.length_append, ← HU.out]; exact hown'
              clear hown' hgrow hown hw
              go_wp2_with fail
              go_roundw
              case rel => exact ⟨k + 1, by omega, by go_num, hown4, hB⟩
              case measure => simp [intOf]; omega
          · have HEM : Hid ((P[k]).isEmpty = true) := by
              show _ = _
              rw [ByteArray.toList_eq, HU.out] at hem
              exact hem
            go_wp2_with fail
            go_roundw
            case rel => exact ⟨k + 1, by omega, by go_num, by rw [HKS.out, if_pos HEM.out]; exact hown, hw⟩
            case measure => simp [intOf]; omega
        · obtain rfl : k = P.length := by omega
          rw [List.take_length] at hown hkl
          obtain ⟨ad2, cap2, hv2, hcm2, hnc2, _⟩ := own_slice hown
          subst hv2
          unfold maxLen at hcm2
          by_cases h20 : 20 < ((full P).length : Int)
          · have HR : Hid (splitS s.data.toList = ([], 2)) := by show _ = _; rw [HS.out, HK.out, if_pos (by omega)]
            go_wp2_with fail
            go_ret2
            exact ⟨.slice none 0 0, by rw [HR.out]; rfl, by rw [HR.out]; exact World.ownsRow_nil _ _ _ _, hb.trans (hw.mono hbs)⟩
          · have HR : Hid (splitS s.data.toList = (full P, 0)) := by show _ = _; rw [HS.out, HK.out, if_neg (by omega)]
            go_wp2_with fail
            go_ret2
            exact ⟨_, by rw [HR.out]; rfl, by rw [HR.out]; exact ownsRow_le' hown hbs, hb.trans (hw.mono hbs)⟩
end Go.Proofs.YtoccjnbodoiibaaDoor

/-
  What Unquote of the document's answers computes; the string fits in Go's limits.
-/
namespace Go.Proofs.YtoccjnbodoiibaaDoor
open Go.RowKit

theorem one_list (s : ByteArray) (k : Nat) (h : k < s.size) : (s.extract k (k + 1)).toList = [s[k]] := by
  rw [extract_one s k h, ByteArray.toList_eq]
theorem first_eq (s : ByteArray) (h : 0 < s.size) (b : Bool) (hb : decide ((s[0].toNat : Int) = 34) = b) : ((s.extract 0 1).toList == [34]) = b := by
  rw [one_list s 0 h, ← hb, Bool.eq_iff_iff]
  simp
  constructor
  · intro e; rw [e]; rfl
  · intro e; exact eq_of_int _ 34 (by simpa using e)
theorem last_eq (s : ByteArray) (h : s.size - 1 < s.size) (b : Bool) (hb : decide ((s[s.size - 1].toNat : Int) = 34) = b) : ((s.extract (s.size - 1) s.size).toList == [34]) = b := by
  have e : s.extract (s.size - 1) s.size = s.extract (s.size - 1) (s.size - 1 + 1) := by congr 1; omega
  rw [e, one_list s (s.size - 1) h, ← hb, Bool.eq_iff_iff]
  simp
  constructor
  · intro e; rw [e]; rfl
  · intro e; exact eq_of_int _ 34 (by simpa using e)

theorem unesc_plain (l : List UInt8) (h : unesc l ≠ none) : allPlain l = true := by
  have gen : ∀ (l : List UInt8) x, l.foldl ustep x ≠ none → allPlain l = true := by
    intro l
    induction l with
    | nil => intro x h; rfl
    | cons c l ih =>
      intro x h
      rw [List.foldl_cons] at h
      cases hp : plainB c
      · rw [ustep_bad _ _ hp, ustep_none] at h
        exact absurd rfl h
      · have := ih _ h
        unfold allPlain at *
        rw [List.all_cons, hp, this]; rfl
  exact gen l _ h

theorem mid_plain (s : ByteArray) (hq : quoted s.data.toList = true) (h : allPlain s.data.toList = false) : allPlain (mid s.data.toList) = false := by
  unfold quoted at hq
  simp only [Bool.and_eq_true, decide_eq_true_eq, beq_iff_eq] at hq
  obtain ⟨⟨h2, h0⟩, h1⟩ := hq
  generalize s.data.toList = l at *
  cases hm : allPlain (mid l)
  · rfl
  · exfalso
    have e : l = 34 :: (mid l ++ [34]) := by
      match l, h2 with
      | a :: b :: r, _ =>
        simp only [List.getElem?_cons_zero, Option.some.injEq] at h0
        subst h0
        have hd : mid (34 :: b :: r) ++ [34] = b :: r := by
          have hne : (b :: r) ≠ [] := by simp
          have hl := List.dropLast_concat_getLast hne
          have hg : (b :: r).getLast hne = 34 := by
            rw [List.getLast_eq_getElem]
            have h1' : (34 :: b :: r)[(34 :: b :: r).length - 1]? = some 34 := h1
            simp only [List.length_cons, Nat.add_sub_cancel] at h1' ⊢
            rw [List.getElem?_cons_succ] at h1'
            exact (List.getElem?_eq_some_iff.1 h1').2
          rw [hg] at hl
          rw [← hl]
          congr 1
          simp [mid, List.dropLast_eq_take]
        rw [hd]
    rw [e] at h
    unfold allPlain at *
    rw [List.all_cons, List.all_append, hm] at h
    revert h
    decide

theorem unq_unplain (s : ByteArray) (h : allPlain s.data.toList = false) : unq s.data.toList = ([], 3) := by
  cases hq : quoted s.data.toList
  · exact unq_no _ hq
  · apply unq_bad
    have hm := mid_plain s hq h
    unfold unescOk
    cases hu : unesc (mid s.data.toList) with
    | none => rfl
    | some x => rw [unesc_plain _ (by rw [hu]; simp)] at hm; cases hm

theorem unq_dead (l : List UInt8) (h : unesc (mid l) = none) : unq l = ([], 3) := by
  apply unq_bad; unfold unescOk; rw [h]
theorem unq_open (l acc : List UInt8) (h : unesc (mid l) = some (acc, true)) : unq l = ([], 3) := by
  apply unq_bad; unfold unescOk; rw [h]; rfl
theorem unq_large (l acc : List UInt8) (hq : quoted l = true) (h : unesc (mid l) = some (acc, false)) (hl : 1000 < acc.length) : unq l = ([], 2) := by
  apply unq_long l hq
  · unfold unescOk; rw [h]; rfl
  · unfold unescT; rw [h]; exact hl
theorem unq_fine (l acc : List UInt8) (hq : quoted l = true) (h : unesc (mid l) = some (acc, false)) (hl : ¬ 1000 < acc.length) : unq l = (acc, 0) := by
  rw [unq_ok l hq]
  · unfold unescT; rw [h]
  · unfold unescOk; rw [h]; rfl
  · unfold unescT; rw [h]; exact hl

theorem mid_size (s : ByteArray) : (s.extract 1 (s.size - 1)).size = s.size - 2 := by rw [ByteArray.size_extract]; omega
theorem mid_get (s : ByteArray) (m : Nat) (h : m + 1 < s.size) (h' : m < (s.extract 1 (s.size - 1)).size) : (s.extract 1 (s.size - 1))[m] = s[m + 1] := by
  have e := get_at (s.extract 1 (s.size - 1)) m h'
  rw [Lib.extract_data, List.getElem?_take_of_lt (by rw [mid_size] at h'; omega), List.getElem?_drop, Nat.add_comm, get_at s (m + 1) h] at e
  exact (Option.some.inj e).symm
theorem plain_at (s : ByteArray) (h : allPlain s.data.toList = true) (k : Nat) (hk : k < s.size) : plainB s[k] = true := by
  cases hp : plainB s[k]
  · rw [allPlain_dead s k hk hp] at h; cases h
  · rfl

theorem app_one (t : ByteArray) (c : UInt8) : (t ++ ⟨#[c]⟩ : ByteArray).data.toList = t.data.toList ++ [c] := by
  rw [ByteArray.data_append, Array.toList_append]

set_option maxHeartbeats 4000000 in
set_option maxRecDepth 100000 in
theorem runquote_at (s t : ByteArray) (n : Int) (hu : unq s.data.toList = (t.data.toList, n)) (w : World) (hs : s.size ≤ 140737488351232) :
    Calls Tryd.prog 24 #[.string s] w fun e w' => e = .returned (.tuple #[.string t, .int .i64 n]) ∧ w' = w := by
  have fin : ∀ t' : ByteArray, ∀ n' : Int, unq s.data.toList = (t'.data.toList, n') → (t' = t ∧ n' = n) := by
    intro t' n' h
    rw [hu, Prod.mk.injEq] at h
    refine ⟨?_, h.2.symm⟩
    apply ByteArray.ext
    apply Array.ext'
    exact h.1.symm
  have HF : Hid (∀ t' : ByteArray, ∀ n' : Int, unq s.data.toList = (t'.data.toList, n') → (t' = t ∧ n' = n)) := fin
  have HM : Hid (s.size ≤ maxLen) := by show s.size ≤ maxLen; unfold maxLen; omega
  clear fin hu
  by_cases h2 : s.size < 2
  · have HQ : Hid (quoted s.data.toList = false) := quoted_short s h2
    go_enter Tryd.func24, Tryd.ntmps24
    go_wp2_with fail
    go_ret2
    obtain ⟨e1, e2⟩ := HF.out ⟨#[]⟩ 3 (unq_no _ HQ.out)
    exact ⟨ret_err e1 e2, rfl⟩
  · have hl : s.size - 1 < s.size := by omega
    have h0 : 0 < s.size := by omega
    have hz : decide ((s.size : Int) < 2) = false := by simp; omega
    have h2' : 2 ≤ (s.size : Int) := by omega
    clear h2
    by_cases hq : (s[0].toNat : Int) = 34
    · have hd := first_eq s h0 true (decide_eq_true hq)
      by_cases hq1 : (s[s.size - 1].toNat : Int) = 34
      · have hd1 := last_eq s hl true (decide_eq_true hq1)
        have HQ : Hid (quoted s.data.toList = true) := quoted_yes s (by omega) hq hq1
        clear hq hq1
        cases hp : allPlain s.data.toList
        · have HP : Hid (allPlain s.data.toList = false) := hp
          clear hp
          go_enter Tryd.func24, Tryd.ntmps24
          go_wp2_with fail
          refine (rplain_any _ _ HM.out).mono ?_
          rintro e w' ⟨rfl, rfl⟩
          rw [HP.out]
          go_wp2_with fail
          go_ret2
          obtain ⟨e1, e2⟩ := HF.out ⟨#[]⟩ 3 (unq_unplain _ HP.out)
          exact ⟨ret_err e1 e2, rfl⟩
        · have HP : Hid (allPlain s.data.toList = true) := hp
          clear hp
          go_enter Tryd.func24, Tryd.ntmps24
          go_wp2_with fail
          refine (rplain_any _ _ HM.out).mono ?_
          rintro e w' ⟨rfl, rfl⟩
          rw [HP.out]
          go_wp2_with fail
          clear hd hd1
          go_loop [4, 5, 6] (fun o c i => ∃ (m : Nat) (u : ByteArray) (cnt : Bool), m + 2 ≤ s.size ∧ i = .int .i64 ((m : Int) + 1) ∧ o = .string u ∧ c = .bool cnt ∧ unesc ((s.extract 1 (s.size - 1)).data.toList.take m) = some (u.data.toList, cnt)) (fun _ _ i => s.size - (intOf i).toNat)
          case atStart => exact ⟨0, ⟨#[]⟩, false, by omega, rfl, rfl, rfl, rfl⟩
          case round =>
            obtain ⟨m, u, cnt, hm, rfl, rfl, rfl, hu⟩ := hrel
            have hul : u.size ≤ 140737488351232 := by
              have h1 := unesc_len _ _ _ hu
              have h2 := List.length_take_le m (s.extract 1 (s.size - 1)).data.toList
              rw [size_list] at h1
              omega
            have HU : Hid (unesc ((s.extract 1 (s.size - 1)).data.toList.take m) = some (u.data.toList, cnt)) := hu
            clear hu
            by_cases hlt : m + 2 < s.size
            · have hlt1 : m + 1 < s.size := by omega
              have hmm : m < (s.extract 1 (s.size - 1)).size := by rw [mid_size]; omega
              have HG : Hid ((s.extract 1 (s.size - 1))[m] = s[m + 1]) := mid_get s m hlt1 hmm
              have HPL : Hid (plainB s[m + 1] = true) := plain_at s HP.out (m + 1) hlt1
              have HMM : Hid (m < (s.extract 1 (s.size - 1)).size) := hmm
              have HE : Hid (s.extract (m + 1) (m + 1 + 1) = ⟨#[s[m + 1]]⟩) := extract_one s (m + 1) hlt1
              have hc1 : (s[m + 1].toNat : Int) < 256 := by have := s[m + 1].toNat_lt; omega
              have HS : Hid (∀ x, ustep (some (u.data.toList, cnt)) s[m + 1] = x → unesc ((s.extract 1 (s.size - 1)).data.toList.take (m + 1)) = x) := by
                intro x hx
                rw [take_snoc _ m HMM.out, unesc_snoc, HU.out, HG.out, hx]
              cases cnt
              · by_cases h92 : (s[m + 1].toNat : Int) = 92
                · have hd2 : ((s[m + 1].toNat : Int) == 92) = true := by simp [h92]
                  have H92 : Hid ((s[m + 1].toNat : Int) = 92) := h92
                  clear h92
                  go_wp2_with fail
                  go_round
                  case rel => exact ⟨m + 1, u, true, by omega, by go_num, rfl, rfl, HS.out _ (ustep_back _ _ (eq_of_int _ 92 H92.out))⟩
                  case measure => simp [intOf]; omega
                · have hd2 : ((s[m + 1].toNat : Int) == 92) = false := by simp [h92]
                  have H92 : Hid ((s[m + 1].toNat : Int) ≠ 92) := h92
                  clear h92
                  by_cases h34 : (s[m + 1].toNat : Int) = 34
                  · have hd3 : ((s[m + 1].toNat : Int) == 34) = true := by simp [h34]
                    have H34 : Hid ((s[m + 1].toNat : Int) = 34) := h34
                    clear h34
                    go_wp2_with fail
                    go_ret2
                    have hn := unesc_dead _ m HMM.out _ HU.out (by rw [HG.out]; exact ustep_quote _ _ (eq_of_int _ 34 H34.out))
                    rw [mid_extract] at hn
                    obtain ⟨e1, e2⟩ := HF.out ⟨#[]⟩ 3 (unq_dead _ hn)
                    exact ⟨ret_err e1 e2, rfl⟩
                  · have hd3 : ((s[m + 1].toNat : Int) == 34) = false := by simp [h34]
                    have H34 : Hid ((s[m + 1].toNat : Int) ≠ 34) := h34
                    clear h34
                    go_wp2_with fail
                    go_round
                    case rel => exact ⟨m + 1, _, false, by omega, by go_num, rfl, rfl, by rw [HE.out, app_one]; exact HS.out _ (ustep_else _ _ HPL.out (ne_of_int _ 34 H34.out) (ne_of_int _ 92 H92.out))⟩
                    case measure => simp [intOf]; omega
              · go_wp2_with fail
                go_round
                case rel => exact ⟨m + 1, _, false, by omega, by go_num, rfl, rfl, by rw [HE.out, app_one]; exact HS.out _ (ustep_took _ _ HPL.out)⟩
                case measure => simp [intOf]; omega
            · have hn := HU.out
              rw [List.take_of_length_le (by rw [size_list, mid_size]; omega), mid_extract] at hn
              have HN : Hid (unesc (mid s.data.toList) = some (u.data.toList, cnt)) := hn
              clear hn
              cases cnt
              · by_cases hlen : 1000 < (u.size : Int)
                · go_wp2_with fail
                  go_ret2
                  obtain ⟨e1, e2⟩ := HF.out ⟨#[]⟩ 2 (unq_large _ _ HQ.out HN.out (by rw [size_list]; omega))
                  exact ⟨ret_err e1 e2, rfl⟩
                · go_wp2_with fail
                  go_ret2
                  obtain ⟨e1, e2⟩ := HF.out u 0 (unq_fine _ _ HQ.out HN.out (by rw [size_list]; omega))
                  exact ⟨ret_err e1 e2, rfl⟩
              · go_wp2_with fail
                go_ret2
                obtain ⟨e1, e2⟩ := HF.out ⟨#[]⟩ 3 (unq_open _ _ HN.out)
                exact ⟨ret_err e1 e2, rfl⟩
      · have hd1 := last_eq s hl false (decide_eq_false hq1)
        have HQ : Hid (quoted s.data.toList = false) := quoted_last s hl hq1
        clear hq hq1
        go_enter Tryd.func24, Tryd.ntmps24
        go_wp2_with fail
        go_ret2
        obtain ⟨e1, e2⟩ := HF.out ⟨#[]⟩ 3 (unq_no _ HQ.out)
        exact ⟨ret_err e1 e2, rfl⟩
    · have hd := first_eq s h0 false (decide_eq_false hq)
      have HQ : Hid (quoted s.data.toList = false) := quoted_first s h0 hq
      clear hq
      go_enter Tryd.func24, Tryd.ntmps24
      go_wp2_with fail
      go_ret2
      obtain ⟨e1, e2⟩ := HF.out ⟨#[]⟩ 3 (unq_no _ HQ.out)
      exact ⟨ret_err e1 e2, rfl⟩
end Go.Proofs.YtoccjnbodoiibaaDoor

/-
  Parts of a text, as laws of the slice operation.
-/
namespace Go.Proofs.YtoccjnbodoiibaaDoor
open Go.RowKit

theorem slice_from (s : ByteArray) (a : Nat) (ha : a ≤ s.size) : ∃ r : ByteArray, r.data.toList = s.data.toList.drop a ∧ r.size = s.size - a ∧ ∀ w, (Instr.slice 9 (.string s) (some (.int .i64 (a : Int))) none none).run Tryd.prog w = .ok (.string r) w := by
  refine ⟨s.extract a s.size, ?_, ?_, fun w => ?_⟩
  · rw [Lib.extract_data, List.take_of_length_le (by rw [List.length_drop, size_list]; omega)]
  · rw [ByteArray.size_extract]; omega
  · rw [run_slice_string_l w 9 s Tryd.underlying9 .i64 (a : Int) (by omega) (by omega)]; rfl
theorem slice_part (s : ByteArray) (a b : Nat) (ha : a ≤ b) (hb : b ≤ s.size) : ∃ r : ByteArray, r.data.toList = (s.data.toList.drop a).take (b - a) ∧ r.size = b - a ∧ ∀ w, (Instr.slice 9 (.string s) (some (.int .i64 (a : Int))) (some (.int .i64 (b : Int))) none).run Tryd.prog w = .ok (.string r) w := by
  refine ⟨s.extract a b, ?_, ?_, fun w => ?_⟩
  · rw [Lib.extract_data]
  · rw [ByteArray.size_extract]; omega
  · rw [run_slice_string w 9 s .i64 .i64 _ _ Tryd.underlying9 (by omega) (by omega) (by omega)]; rfl
theorem slice_to (s : ByteArray) (b : Nat) (hb : b ≤ s.size) : ∃ r : ByteArray, r.data.toList = s.data.toList.take b ∧ r.size = b ∧ ∀ w, (Instr.slice 9 (.string s) none (some (.int .i64 (b : Int))) none).run Tryd.prog w = .ok (.string r) w := by
  refine ⟨s.extract 0 b, ?_, ?_, fun w => ?_⟩
  · rw [Lib.extract_data]; simp
  · rw [ByteArray.size_extract]; omega
  · rw [run_slice_string_h w 9 s Tryd.underlying9 .i64 (b : Int) (by omega) (by omega)]; rfl
end Go.Proofs.YtoccjnbodoiibaaDoor

/-
  What ControlParse of the document's answers says, whatever text comes in.
-/
namespace Go.Proofs.YtoccjnbodoiibaaDoor
open Go.RowKit

theorem drew_new (w : World) (cs : Array Value) (t : TypeId) (j : Nat) : ((w.alloc (.cells cs t)).drew).cell? ⟨w.heap.size, j, none⟩ = cs[j]? := by
  show (w.alloc (.cells cs t)).cell? _ = _
  simp
theorem paD_no (t a b : List UInt8) (h : Lib.cut t [61] = (a, b, false)) : paD t = if token t = true then some (lower t, false, []) else none := by
  have ha : a = t := by
    unfold Lib.cut at h
    split at h
    · simp at h
    · simp only [Prod.mk.injEq] at h; exact h.1.symm
  unfold paD
  rw [h, ha]
  simp
theorem paD_yes (t a b : List UInt8) (h : Lib.cut t [61] = (a, b, true)) : paD t = if token a = true then (rv b).map (fun v => (lower a, true, v)) else none := by
  unfold paD
  rw [h]
  simp
set_option maxHeartbeats 8000000 in
set_option maxRecDepth 100000 in
theorem rkparse_any (s : ByteArray) (w : World) :
    Calls Tryd.prog 10 #[.string s] w fun e w' => ∃ v, e = .returned (.tuple #[v, .int .i64 (ctQ s.data.toList).2]) ∧
      w'.ownsRow w.heap.size 31 3 v (ctQ s.data.toList).1.length (drs (ctQ s.data.toList).1) ∧ Below w.heap.size w w' := by
  obtain ⟨i1, hi1, hy0, hy1, hy2⟩ := info_parts infoDr
  obtain ⟨P, hP⟩ : ∃ P, (splitS s.data.toList).1 = P := ⟨_, rfl⟩
  obtain ⟨c, hc⟩ : ∃ c, (splitS s.data.toList).2 = c := ⟨_, rfl⟩
  have hsp := rsplit_any s w
  rw [hP, hc] at hsp
  have HSP : Hid (Calls Tryd.prog 22 #[.string s] w fun e w' => ∃ v, e = .returned (.tuple #[v, .int .i64 c]) ∧ w'.ownsRow w.heap.size 9 1 v P.length (strs P) ∧ Below w.heap.size w w') := hsp
  have HQ : Hid (ctQ s.data.toList = if c = 0 then (match paDs P with | none => ([], 3) | some ds => (ds, 0)) else ([], c)) := by
    show _ = _
    unfold ctQ
    rw [hP, hc]
    by_cases h0 : c = 0
    · rw [if_pos h0, if_pos h0]; cases paDs P <;> rfl
    · rw [if_neg h0, if_neg h0]
  have hP20 : P.length ≤ 20 := by rw [← hP]; exact split_len _
  have HPL : Hid (∀ p ∈ P, p.length ≤ 1000) := fun p hp => split_mem s.data.toList p (by rw [hP]; exact hp)
  clear hsp hP hc
  by_cases hc0 : c = 0
  · subst hc0
    rw [if_pos rfl] at HQ
    go_enter Tryd.func10, Tryd.ntmps10
    go_wp2_with fail
    refine HSP.out.mono ?_
    rintro e w1 ⟨v, rfl, hown, hb1⟩
    obtain ⟨ad, cap, hv, hcm, hnc, hcl⟩ := own_form2 hown
    subst hv
    have HCL : Hid (0 < P.length → ∃ g, ad = some ⟨g, 0, none⟩ ∧ w.heap.size ≤ g ∧ g < w1.heap.size ∧ ∀ j, j < P.length * 1 → w1.cell? ⟨g, j, none⟩ = (strs P)[j]?) := hcl
    have HB1 : Hid (Below w.heap.size w w1) := hb1
    have hsz1 := hb1.size
    unfold maxLen at hcm
    clear hown hcl hb1
    go_wp2_with fail
    go_loopw [6, 21] (fun ov i wr => ∃ (k : Nat) (ds : List Dv), k ≤ P.length ∧ i = .int .i64 k ∧ Hid (paDs (P.take k) = some ds) ∧ wr.ownsRow w1.heap.size 31 3 ov ds.length (drs ds) ∧ Below w1.heap.size w1 wr) (fun _ i _ => P.length - (intOf i).toNat)
    case atStart => exact ⟨0, [], Nat.zero_le _, rfl, rfl, World.ownsRow_nil _ _ _ _, Below.refl _ _⟩
    case round =>
      obtain ⟨k, ds, hk, rfl, HDS, hown, hwr⟩ := hrel
      have hszr := hwr.size
      have hdl : ds.length ≤ 20 := by
        have h1 := (paDs_all _ _ HDS.out).1
        have h2 := List.length_take_le k P
        omega
      by_cases hlt : k < P.length
      · obtain ⟨g, rfl, hgB, hgs, hce⟩ := HCL.out (by omega)
        have hcell := (hwr.cell (p := ⟨g, k, none⟩) hgs).trans ((hce k (by omega)).trans (strs_get P k hlt))
        obtain ⟨t, ht⟩ : ∃ t : ByteArray, t = ⟨(P[k]).toArray⟩ := ⟨_, rfl⟩
        rw [← ht] at hcell
        have HT : Hid (t.data.toList = P[k]) := by show _ = _; rw [ht]
        have hts : t.size ≤ 1000 := by rw [← size_list, HT.out]; exact HPL.out _ (List.getElem_mem hlt)
        have hki : (k : Int) < (P.length : Int) := by omega
        have hk0 : (0 : Int) ≤ (k : Int) := by omega
        have hgr : g < wr.heap.size := Nat.lt_of_lt_of_le hgs hszr
        obtain ⟨oad, oc, hov, hom, honc, _⟩ := own_form2 hown
        subst hov
        unfold maxLen at hom
        have HNO : Hid (paD t.data.toList = none → ctQ s.data.toList = ([], 3)) := fun h => by rw [HQ.out, paDs_dead P k hlt (by rw [← HT.out]; exact h)]
        have HYES : Hid (∀ x, paD t.data.toList = some x → paDs (P.take (k + 1)) = some (ds ++ [x])) := fun x h => paDs_take P k hlt ds HDS.out _ (by rw [← HT.out]; exact h)
        have HOWN : Hid (wr.ownsRow w1.heap.size 31 3 (.slice oad ds.length oc) ds.length (drs ds)) := hown
        have HWR : Hid (Below w1.heap.size w1 wr) := hwr
        obtain ⟨L, hL⟩ : ∃ L : ByteArray, L = ⟨(lower t.data.toList).toArray⟩ := ⟨_, rfl⟩
        have HLL : Hid (L.data.toList = lower t.data.toList) := by show _ = _; rw [hL]
        have HLW : Hid (∀ W : World, Calls Tryd.prog 18 #[.string t] W fun e w' => e = .returned (.string L) ∧ w' = W) := fun W => by rw [hL]; exact rlower_any t W (by omega)
        have hLs : L.size ≤ 1000 := by rw [← size_list, HLL.out]; unfold lower; rw [List.length_map, size_list]; exact hts
        clear hce ht hL hown hwr
        rcases index_two t.data.toList with hix | ⟨j, hix⟩
        · have HI : Hid (Lib.indexByte t.data.toList 61 = -1) := hix
          have HPD : Hid (paD t.data.toList = if token L.data.toList = true then some (L.data.toList, false, (⟨#[]⟩ : ByteArray).data.toList) else none) := by
            show _ = _
            rw [paD_no _ _ _ (cut_one_no _ hix), HLL.out, lowtok]
          clear hix
          cases htk : token L.data.toList
          · have HT : Hid (token L.data.toList = false) := htk
            rw [htk] at HPD
            have HZ := HNO.out (by rw [HPD.out]; try simp)
            have HZZ : Hid (ctQ s.data.toList = ([], 3)) := HZ
            clear HZ htk
            go_wp2_with fail
            refine (HLW.out _).mono ?_
            rintro e w3 ⟨rfl, rfl⟩
            go_wp2_with fail
            refine (Tryd.strings_Index_one t 61 _).mono ?_
            rintro e w3 ⟨rfl, rfl⟩
            rw [HI.out]
            go_wp2_with fail
            refine (rtoken_any L _ (by unfold maxLen; omega)).mono ?_
            rintro e w4 ⟨rfl, hw4⟩
            rw [HT.out]
            have HBW : Below w3.heap.size w3 w4 := by rw [hw4]; exact (Below.refl _ _).alloc (Nat.le_refl _) _
            have hwb := HB1.out.trans ((HWR.out.trans (HBW.mono hszr)).mono hsz1)
            clear hw4
            go_wp2_with fail
            go_ret2
            exact ⟨.slice none 0 0, by rw [HZZ.out]; try rfl, by rw [HZZ.out]; exact World.ownsRow_nil _ _ _ _, hwb⟩
          · have HT : Hid (token L.data.toList = true) := htk
            have HN2 : Hid (paDs (P.take (k + 1)) = some (ds ++ [(L.data.toList, false, (⟨#[]⟩ : ByteArray).data.toList)])) := HYES.out _ (by rw [HPD.out, if_pos htk])
            clear htk HPD
            go_wp2_with fail
            refine (HLW.out _).mono ?_
            rintro e w3 ⟨rfl, rfl⟩
            go_wp2_with fail
            refine (Tryd.strings_Index_one t 61 _).mono ?_
            rintro e w3 ⟨rfl, rfl⟩
            rw [HI.out]
            go_wp2_with fail
            refine (rtoken_any L _ (by unfold maxLen; omega)).mono ?_
            rintro e w4 ⟨rfl, hw4⟩
            rw [HT.out]
            have HBW : Below w3.heap.size w3 w4 := by rw [hw4]; exact (Below.refl _ _).alloc (Nat.le_refl _) _
            have d0 : w4.cell? ⟨w3.heap.size, 0, none⟩ = some (.string L) := by rw [hw4]; simp
            have d1 : w4.cell? ⟨w3.heap.size, 1, none⟩ = some (.bool false) := by rw [hw4]; simp
            have d2 : w4.cell? ⟨w3.heap.size, 2, none⟩ = some (.string ⟨#[]⟩) := by rw [hw4]; simp
            have hlt4 : w3.heap.size < w4.heap.size := by rw [hw4]; simp
            clear hw4
            have hw4 := HWR.out.trans (HBW.mono hszr)
            have hown4 := own_below3 HOWN.out HBW
            have hsz4 := hw4.size
            clear HBW
            go_wp2_with (at_builtin; refine wpList_append_own _ rfl _ _ 22 rfl w1.heap.size 31 i1 (.agg #[.string ⟨#[]⟩, .bool false, .string ⟨#[]⟩]) 3 40 Tryd.underlying22 hi1 hy0 hy1 hy2 rfl (by decide) _ _ _ rfl (hown4.alloc _) ⟨w4.heap.size, 0, none⟩ 1 1 [.string L, .bool false, .string ⟨#[]⟩] rfl rfl ?c1 ?c2 ?c3 ?c4 ?c5 ?_)
            case c1 =>
              intro j z h
              match j, h with
              | 0, h => simp at h; subst h; simp [Addr.add]
              | 1, h => simp at h; subst h; simp [Addr.add]
              | 2, h => simp at h; subst h; simp [Addr.add]
            case c2 => intro z hx; simp at hx; rcases hx with rfl | rfl | rfl <;> rfl
            case c3 => unfold maxLen; omega
            case c4 => omega
            case c5 => simp; omega
            · intro v' w5 hown' hgrow _
              have hB : Below w1.heap.size w1 w5 := (hw4.alloc (by omega) _).grown hgrow (by simp; omega) (fun bb hb => ((hown4.alloc (.cells #[.string L, .bool false, .string ⟨#[]⟩] 31)).lt bb hb).1)
              have hown5 : w5.ownsRow w1.heap.size 31 3 v' (ds ++ [((L : ByteArray).data.toList, false, (⟨#[]⟩ : ByteArray).data.toList)]).length (drs (ds ++ [((L : ByteArray).data.toList, false, (⟨#[]⟩ : ByteArray).data.toList)])) := by
                rw [← drs_snoc, List.length_append]; exact hown'
              clear hown' hgrow hown4 hw4
              go_wp2_with fail
              go_roundw
              case rel => exact ⟨k + 1, _, by omega, by go_num, HN2, hown5, hB⟩
              case measure => simp [intOf]; omega
        · have hjl := index_lt _ _ hix
          rw [size_list] at hjl
          obtain ⟨a, ha, has, hsa⟩ := slice_to t j (by omega)
          obtain ⟨b, hb, hbs, hsb⟩ := slice_from t (j + 1) (by omega)
          have hcut : Lib.cut t.data.toList [61] = (a.data.toList, b.data.toList, true) := by rw [cut_one_yes _ j hix, ha, hb]
          obtain ⟨M, hM⟩ : ∃ M : ByteArray, M = ⟨(lower a.data.toList).toArray⟩ := ⟨_, rfl⟩
          have HML : Hid (M.data.toList = lower a.data.toList) := by show _ = _; rw [hM]
          have HMW : Hid (∀ W : World, Calls Tryd.prog 18 #[.string a] W fun e w' => e = .returned (.string M) ∧ w' = W) := fun W => by rw [hM]; exact rlower_any a W (by omega)
          have hMs : M.size ≤ 1000 := by rw [← size_list, HML.out]; unfold lower; rw [List.length_map, size_list]; omega
          have HPD : Hid (paD t.data.toList = if token M.data.toList = true then (rv b.data.toList).map (fun v => (M.data.toList, true, v)) else none) := by
            show _ = _
            rw [paD_yes _ _ _ hcut, HML.out, lowtok]
          have HI : Hid (Lib.indexByte t.data.toList 61 = j) := hix
          clear hix ha hb hcut hM
          have hsb' : ∀ w, (Instr.slice 9 (.string t) (some (.int .i64 ((j : Int) + 1))) none none).run Tryd.prog w = .ok (.string b) w := fun w => by have := hsb w; simpa using this
          have hwj : IntKind.i64.wrap ((j : Int) + 1) = (j : Int) + 1 := by rw [IntKind.wrap_i64]; omega
          have hj0 : (0 : Int) ≤ (j : Int) := by omega
          clear hsb
          obtain ⟨tb, htb⟩ : ∃ tb, token b.data.toList = tb := ⟨_, rfl⟩
          obtain ⟨tm, htm⟩ : ∃ tm, token M.data.toList = tm := ⟨_, rfl⟩
          have HTB : Hid (∀ W : World, Calls Tryd.prog 17 #[.string b] W fun e w' => e = .returned (.bool tb) ∧ w' = W) := fun W => (rtoken_any b W (by unfold maxLen; omega)).mono fun e w' h => ⟨by rw [h.1, htb], h.2⟩
          have HTM : Hid (∀ W : World, Calls Tryd.prog 17 #[.string M] W fun e w' => e = .returned (.bool tm) ∧ w' = W) := fun W => (rtoken_any M W (by unfold maxLen; omega)).mono fun e w' h => ⟨by rw [h.1, htm], h.2⟩
          rw [htm] at HPD
          cases tb
          · obtain ⟨q, d, hu⟩ : ∃ (q : ByteArray) (d : Int), unq b.data.toList = (q.data.toList, d) := ⟨⟨(unq b.data.toList).1.toArray⟩, (unq b.data.toList).2, rfl⟩
            have HU : Hid (unq b.data.toList = (q.data.toList, d)) := hu
            have hrv : rv b.data.toList = if d = 0 then some q.data.toList else none := by
              unfold rv
              rw [htb, hu]
              simp
            rw [hrv] at HPD
            clear htb htm hrv hu
            by_cases hd : d = 0
            · subst hd
              cases tm
              · have HZZ : Hid (ctQ s.data.toList = ([], 3)) := HNO.out (by rw [HPD.out]; try rfl)
                go_wp2_with fail
                refine (HLW.out _).mono ?_
                rintro e w3 ⟨rfl, rfl⟩
                go_wp2_with fail
                refine (Tryd.strings_Index_one t 61 _).mono ?_
                rintro e w3 ⟨rfl, rfl⟩
                rw [HI.out]
                go_wp2_with fail
                go_region_held3 (fun _ => True) (trivial) (first | (go_at_call 18; refine (HMW.out _).mono ?_; rintro e w3 ⟨rfl, rfl⟩))
                go_wp2_with fail
                refine (HTB.out _).mono ?_
                rintro e w4 ⟨rfl, hw4⟩
                have HBW : Below w3.heap.size w3 w4 := by rw [hw4]; exact ((Below.refl _ _).alloc (Nat.le_refl _) _).drew
                have d0 : w4.cell? ⟨w3.heap.size, 0, none⟩ = some (.string M) := by rw [hw4]; exact drew_new _ _ _ _
                have d1 : w4.cell? ⟨w3.heap.size, 1, none⟩ = some (.bool true) := by rw [hw4]; exact drew_new _ _ _ _
                have d2 : w4.cell? ⟨w3.heap.size, 2, none⟩ = some (.string b) := by rw [hw4]; exact drew_new _ _ _ _
                have dz : w4.frozen? ⟨w3.heap.size, 2, none⟩ = false := by rw [hw4]; exact new_free _ _ _ _
                have hlt4 : w3.heap.size < w4.heap.size := by rw [hw4]; show _ < (w3.alloc _).heap.size; simp
                clear hw4
                go_wp2_with fail
                refine (runquote_at b q 0 HU.out _ (by omega)).mono ?_
                rintro e w5 ⟨rfl, rfl⟩
                have hwb := HB1.out.trans ((HWR.out.trans ((HBW.setCell (p := ⟨w3.heap.size, 2, none⟩) (Nat.le_refl _) (.string q)).mono hszr)).mono hsz1)
                have e0 : (w5.setCell ⟨w3.heap.size, 2, none⟩ (.string q)).cell? ⟨w3.heap.size, 0, none⟩ = some (.string M) := (World.cell?_setCell_other _ _ _ _ (by simp)).trans d0
                go_wp2_with fail
                refine (HTM.out _).mono ?_
                rintro e w6 ⟨rfl, rfl⟩
                go_wp2_with fail
                go_ret2
                exact ⟨.slice none 0 0, by rw [HZZ.out]; try rfl, by rw [HZZ.out]; exact World.ownsRow_nil _ _ _ _, hwb⟩
              · have HN2 : Hid (paDs (P.take (k + 1)) = some (ds ++ [(M.data.toList, true, q.data.toList)])) := HYES.out _ (by rw [HPD.out]; try rfl)
                go_wp2_with fail
                refine (HLW.out _).mono ?_
                rintro e w3 ⟨rfl, rfl⟩
                go_wp2_with fail
                refine (Tryd.strings_Index_one t 61 _).mono ?_
                rintro e w3 ⟨rfl, rfl⟩
                rw [HI.out]
                go_wp2_with fail
                go_region_held3 (fun _ => True) (trivial) (first | (go_at_call 18; refine (HMW.out _).mono ?_; rintro e w3 ⟨rfl, rfl⟩))
                go_wp2_with fail
                refine (HTB.out _).mono ?_
                rintro e w4 ⟨rfl, hw4⟩
                have HBW : Below w3.heap.size w3 w4 := by rw [hw4]; exact ((Below.refl _ _).alloc (Nat.le_refl _) _).drew
                have d0 : w4.cell? ⟨w3.heap.size, 0, none⟩ = some (.string M) := by rw [hw4]; exact drew_new _ _ _ _
                have d1 : w4.cell? ⟨w3.heap.size, 1, none⟩ = some (.bool true) := by rw [hw4]; exact drew_new _ _ _ _
                have d2 : w4.cell? ⟨w3.heap.size, 2, none⟩ = some (.string b) := by rw [hw4]; exact drew_new _ _ _ _
                have dz : w4.frozen? ⟨w3.heap.size, 2, none⟩ = false := by rw [hw4]; exact new_free _ _ _ _
                have hlt4 : w3.heap.size < w4.heap.size := by rw [hw4]; show _ < (w3.alloc _).heap.size; simp
                clear hw4
                go_wp2_with fail
                refine (runquote_at b q 0 HU.out _ (by omega)).mono ?_
                rintro e w5 ⟨rfl, rfl⟩
                have e0 : (w5.setCell ⟨w3.heap.size, 2, none⟩ (.string q)).cell? ⟨w3.heap.size, 0, none⟩ = some (.string M) := (World.cell?_setCell_other _ _ _ _ (by simp)).trans d0
                have e1 : (w5.setCell ⟨w3.heap.size, 2, none⟩ (.string q)).cell? ⟨w3.heap.size, 1, none⟩ = some (.bool true) := (World.cell?_setCell_other _ _ _ _ (by simp)).trans d1
                have e2 : (w5.setCell ⟨w3.heap.size, 2, none⟩ (.string q)).cell? ⟨w3.heap.size, 2, none⟩ = some (.string q) := World.cell?_setCell_same' _ _ _ (by rw [d2]; rfl)
                have hBS := HBW.setCell (p := ⟨w3.heap.size, 2, none⟩) (Nat.le_refl _) (.string q)
                go_wp2_with fail
                refine (HTM.out _).mono ?_
                rintro e w6 ⟨rfl, hw6⟩
                rw [← hw6] at e0 e1 e2 hBS
                have hlt6 : w3.heap.size < w6.heap.size := by rw [hw6]; show _ < (w5.setCell _ _).heap.size; simp; exact hlt4
                clear hw6 d0 d1 d2 dz HBW
                have hw7 := HWR.out.trans (hBS.mono hszr)
                have hown7 := own_below3 HOWN.out hBS
                have hsz7 := hw7.size
                clear hBS
                go_wp2_with (at_builtin; refine wpList_append_own _ rfl _ _ 22 rfl w1.heap.size 31 i1 (.agg #[.string ⟨#[]⟩, .bool false, .string ⟨#[]⟩]) 3 40 Tryd.underlying22 hi1 hy0 hy1 hy2 rfl (by decide) _ _ _ rfl (hown7.alloc _) ⟨w6.heap.size, 0, none⟩ 1 1 [.string M, .bool true, .string q] rfl rfl ?c1 ?c2 ?c3 ?c4 ?c5 ?_)
                case c1 =>
                  intro j z h
                  match j, h with
                  | 0, h => simp at h; subst h; simp [Addr.add]
                  | 1, h => simp at h; subst h; simp [Addr.add]
                  | 2, h => simp at h; subst h; simp [Addr.add]
                case c2 => intro z hx; simp at hx; rcases hx with rfl | rfl | rfl <;> rfl
                case c3 => unfold maxLen; omega
                case c4 => omega
                case c5 => simp; omega
                · intro v' w5 hown' hgrow _
                  have hB : Below w1.heap.size w1 w5 := (hw7.alloc (by omega) _).grown hgrow (by simp; omega) (fun bb hb => ((hown7.alloc (.cells #[.string M, .bool true, .string q] 31)).lt bb hb).1)
                  have hown5 : w5.ownsRow w1.heap.size 31 3 v' (ds ++ [((M : ByteArray).data.toList, true, (q : ByteArray).data.toList)]).length (drs (ds ++ [((M : ByteArray).data.toList, true, (q : ByteArray).data.toList)])) := by
                    rw [← drs_snoc, List.length_append]; exact hown'
                  clear hown' hgrow hown7 hw7
                  go_wp2_with fail
                  go_roundw
                  case rel => exact ⟨k + 1, _, by omega, by go_num, HN2, hown5, hB⟩
                  case measure => simp [intOf]; omega
            · have hdb : (d != 0) = true := by simpa using hd
              have HZZ : Hid (ctQ s.data.toList = ([], 3)) := HNO.out (by rw [HPD.out, if_neg hd]; cases tm <;> rfl)
              clear hd
              go_wp2_with fail
              refine (HLW.out _).mono ?_
              rintro e w3 ⟨rfl, rfl⟩
              go_wp2_with fail
              refine (Tryd.strings_Index_one t 61 _).mono ?_
              rintro e w3 ⟨rfl, rfl⟩
              rw [HI.out]
              go_wp2_with fail
              go_region_held3 (fun _ => True) (trivial) (first | (go_at_call 18; refine (HMW.out _).mono ?_; rintro e w3 ⟨rfl, rfl⟩))
              go_wp2_with fail
              refine (HTB.out _).mono ?_
              rintro e w4 ⟨rfl, hw4⟩
              have HBW : Below w3.heap.size w3 w4 := by rw [hw4]; exact ((Below.refl _ _).alloc (Nat.le_refl _) _).drew
              have d0 : w4.cell? ⟨w3.heap.size, 0, none⟩ = some (.string M) := by rw [hw4]; exact drew_new _ _ _ _
              have d1 : w4.cell? ⟨w3.heap.size, 1, none⟩ = some (.bool true) := by rw [hw4]; exact drew_new _ _ _ _
              have d2 : w4.cell? ⟨w3.heap.size, 2, none⟩ = some (.string b) := by rw [hw4]; exact drew_new _ _ _ _
              have dz : w4.frozen? ⟨w3.heap.size, 2, none⟩ = false := by rw [hw4]; exact new_free _ _ _ _
              have hlt4 : w3.heap.size < w4.heap.size := by rw [hw4]; show _ < (w3.alloc _).heap.size; simp
              clear hw4
              go_wp2_with fail
              refine (runquote_at b q d HU.out _ (by omega)).mono ?_
              rintro e w5 ⟨rfl, rfl⟩
              have hwb := HB1.out.trans ((HWR.out.trans ((HBW.setCell (p := ⟨w3.heap.size, 2, none⟩) (Nat.le_refl _) (.string q)).mono hszr)).mono hsz1)
              go_wp2_with fail
              go_ret2
              exact ⟨.slice none 0 0, by rw [HZZ.out]; try rfl, by rw [HZZ.out]; exact World.ownsRow_nil _ _ _ _, hwb⟩
          · have hrv : rv b.data.toList = some b.data.toList := rv_token _ htb
            rw [hrv] at HPD
            clear htb htm hrv
            cases tm
            · have HZZ : Hid (ctQ s.data.toList = ([], 3)) := HNO.out (by rw [HPD.out]; try rfl)
              go_wp2_with fail
              refine (HLW.out _).mono ?_
              rintro e w3 ⟨rfl, rfl⟩
              go_wp2_with fail
              refine (Tryd.strings_Index_one t 61 _).mono ?_
              rintro e w3 ⟨rfl, rfl⟩
              rw [HI.out]
              go_wp2_with fail
              go_region_held3 (fun _ => True) (trivial) (first | (go_at_call 18; refine (HMW.out _).mono ?_; rintro e w3 ⟨rfl, rfl⟩))
              go_wp2_with fail
              refine (HTB.out _).mono ?_
              rintro e w4 ⟨rfl, hw4⟩
              have HBW : Below w3.heap.size w3 w4 := by rw [hw4]; exact ((Below.refl _ _).alloc (Nat.le_refl _) _).drew
              have d0 : w4.cell? ⟨w3.heap.size, 0, none⟩ = some (.string M) := by rw [hw4]; exact drew_new _ _ _ _
              have d1 : w4.cell? ⟨w3.heap.size, 1, none⟩ = some (.bool true) := by rw [hw4]; exact drew_new _ _ _ _
              have d2 : w4.cell? ⟨w3.heap.size, 2, none⟩ = some (.string b) := by rw [hw4]; exact drew_new _ _ _ _
              have dz : w4.frozen? ⟨w3.heap.size, 2, none⟩ = false := by rw [hw4]; exact new_free _ _ _ _
              have hlt4 : w3.heap.size < w4.heap.size := by rw [hw4]; show _ < (w3.alloc _).heap.size; simp
              clear hw4
              have hwb := HB1.out.trans ((HWR.out.trans (HBW.mono hszr)).mono hsz1)
              go_wp2_with fail
              refine (HTM.out _).mono ?_
              rintro e w5 ⟨rfl, rfl⟩
              go_wp2_with fail
              go_ret2
              exact ⟨.slice none 0 0, by rw [HZZ.out]; try rfl, by rw [HZZ.out]; exact World.ownsRow_nil _ _ _ _, hwb⟩
            · have HN2 : Hid (paDs (P.take (k + 1)) = some (ds ++ [(M.data.toList, true, b.data.toList)])) := HYES.out _ (by rw [HPD.out]; try rfl)
              go_wp2_with fail
              refine (HLW.out _).mono ?_
              rintro e w3 ⟨rfl, rfl⟩
              go_wp2_with fail
              refine (Tryd.strings_Index_one t 61 _).mono ?_
              rintro e w3 ⟨rfl, rfl⟩
              rw [HI.out]
              go_wp2_with fail
              go_region_held3 (fun _ => True) (trivial) (first | (go_at_call 18; refine (HMW.out _).mono ?_; rintro e w3 ⟨rfl, rfl⟩))
              go_wp2_with fail
              refine (HTB.out _).mono ?_
              rintro e w4 ⟨rfl, hw4⟩
              have HBW : Below w3.heap.size w3 w4 := by rw [hw4]; exact ((Below.refl _ _).alloc (Nat.le_refl _) _).drew
              have d0 : w4.cell? ⟨w3.heap.size, 0, none⟩ = some (.string M) := by rw [hw4]; exact drew_new _ _ _ _
              have d1 : w4.cell? ⟨w3.heap.size, 1, none⟩ = some (.bool true) := by rw [hw4]; exact drew_new _ _ _ _
              have d2 : w4.cell? ⟨w3.heap.size, 2, none⟩ = some (.string b) := by rw [hw4]; exact drew_new _ _ _ _
              have dz : w4.frozen? ⟨w3.heap.size, 2, none⟩ = false := by rw [hw4]; exact new_free _ _ _ _
              have hlt4 : w3.heap.size < w4.heap.size := by rw [hw4]; show _ < (w3.alloc _).heap.size; simp
              clear hw4
              go_wp2_with fail
              refine (HTM.out _).mono ?_
              rintro e w5 ⟨rfl, rfl⟩
              have hw7 := HWR.out.trans (HBW.mono hszr)
              have hown7 := own_below3 HOWN.out HBW
              have hsz7 := hw7.size
              clear HBW
              go_wp2_with (at_builtin; refine wpList_append_own _ rfl _ _ 22 rfl w1.heap.size 31 i1 (.agg #[.string ⟨#[]⟩, .bool false, .string ⟨#[]⟩]) 3 40 Tryd.underlying22 hi1 hy0 hy1 hy2 rfl (by decide) _ _ _ rfl (hown7.alloc _) ⟨w5.heap.size, 0, none⟩ 1 1 [.string M, .bool true, .string b] rfl rfl ?c1 ?c2 ?c3 ?c4 ?c5 ?_)
              case c1 =>
                intro j z h
                match j, h with
                | 0, h => simp at h; subst h; simp [Addr.add]
                | 1, h => simp at h; subst h; simp [Addr.add]
                | 2, h => simp at h; subst h; simp [Addr.add]
              case c2 => intro z hx; simp at hx; rcases hx with rfl | rfl | rfl <;> rfl
              case c3 => unfold maxLen; omega
              case c4 => omega
              case c5 => simp; omega
              · intro v' w5 hown' hgrow _
                have hB : Below w1.heap.size w1 w5 := (hw7.alloc (by omega) _).grown hgrow (by simp; omega) (fun bb hb => ((hown7.alloc (.cells #[.string M, .bool true, .string b] 31)).lt bb hb).1)
                have hown5 : w5.ownsRow w1.heap.size 31 3 v' (ds ++ [((M : ByteArray).data.toList, true, (b : ByteArray).data.toList)]).length (drs (ds ++ [((M : ByteArray).data.toList, true, (b : ByteArray).data.toList)])) := by
                  rw [← drs_snoc, List.length_append]; exact hown'
                clear hown' hgrow hown7 hw7
                go_wp2_with fail
                go_roundw
                case rel => exact ⟨k + 1, _, by omega, by go_num, HN2, hown5, hB⟩
                case measure => simp [intOf]; omega
      · have HD : Hid (ctQ s.data.toList = (ds, 0)) := by
          have h := HDS.out
          rw [List.take_of_length_le (by omega)] at h
          show _ = _
          rw [HQ.out, h]
        have HO : Hid (wr.ownsRow w1.heap.size 31 3 _ ds.length (drs ds)) := hown
        have hwb := HB1.out.trans (hwr.mono hsz1)
        clear hown hwr
        go_wp2_with fail
        go_ret2
        exact ⟨_, by rw [HD.out]; try rfl, by rw [HD.out]; exact own_le HO.out hsz1, hwb⟩
  · have hcb : (c != 0) = true := by simpa using hc0
    rw [if_neg hc0] at HQ
    clear hc0
    go_enter Tryd.func10, Tryd.ntmps10
    go_wp2_with fail
    refine HSP.out.mono ?_
    rintro e w1 ⟨v, rfl, hown, hb1⟩
    obtain ⟨ad, cap, hv, hcm, hnc, hcl⟩ := own_form2 hown
    subst hv
    clear hown hcl
    go_wp2_with fail
    go_ret2
    exact ⟨.slice none 0 0, by rw [HQ.out]; try rfl, by rw [HQ.out]; exact World.ownsRow_nil _ _ _ _, hb1⟩
end Go.Proofs.YtoccjnbodoiibaaDoor

/-
  Eq of the document's answers on two lists of the same directives answers true and turns nothing that was there.
-/
namespace Go.Proofs.YtoccjnbodoiibaaDoor
open Go.RowKit

set_option maxHeartbeats 1000000 in
set_option maxRecDepth 100000 in
theorem eqD_same (v v' : Value) (ts : List (List UInt8 × Bool × List UInt8)) (w : World) (h : Dl w v ts) (h' : Dl w v' ts) :
    Calls Tryd.prog 11 #[v, v'] w fun e w' => e = .returned (.bool true) ∧ Below w.heap.size w w' := by
  obtain ⟨ad, cap, hv, hnc, hcm, hc⟩ := h
  obtain ⟨ad', cap', hv', hnc', hcm', hc'⟩ := h'
  subst hv hv'
  unfold maxLen at hcm hcm'
  have HC : Hid (0 < ts.length → ∃ g off, ad = some ⟨g, off, none⟩ ∧ g < w.heap.size ∧
    ∀ (k : Nat) (h : k < ts.length), w.cell? ⟨g, off + k * 3, none⟩ = some (.string ⟨(ts[k]).1.toArray⟩) ∧ w.cell? ⟨g, off + k * 3 + 1, none⟩ = some (.bool (ts[k]).2.1) ∧ w.cell? ⟨g, off + k * 3 + 2, none⟩ = some (.string ⟨(ts[k]).2.2.toArray⟩)) := hc
  have HC' : Hid (0 < ts.length → ∃ g off, ad' = some ⟨g, off, none⟩ ∧ g < w.heap.size ∧
    ∀ (k : Nat) (h : k < ts.length), w.cell? ⟨g, off + k * 3, none⟩ = some (.string ⟨(ts[k]).1.toArray⟩) ∧ w.cell? ⟨g, off + k * 3 + 1, none⟩ = some (.bool (ts[k]).2.1) ∧ w.cell? ⟨g, off + k * 3 + 2, none⟩ = some (.string ⟨(ts[k]).2.2.toArray⟩)) := hc'
  clear hc hc'
  go_enter Tryd.func11, Tryd.ntmps11
  go_wp2_with fail
  go_loopw [14] (fun i wr => ∃ k : Nat, k ≤ ts.length ∧ i = .int .i64 k ∧ Below w.heap.size w wr) (fun i _ => ts.length - (intOf i).toNat)
  case atStart => exact ⟨0, Nat.zero_le _, rfl, Below.refl _ _⟩
  case round =>
    obtain ⟨k, hk, rfl, hw⟩ := hrel
    by_cases hlt : k < ts.length
    · obtain ⟨g, off, rfl, hgs, hce⟩ := HC.out (by omega)
      obtain ⟨g', off', rfl, hgs', hce'⟩ := HC'.out (by omega)
      obtain ⟨p1, p2, p3⟩ := hce k hlt
      obtain ⟨q1, q2, q3⟩ := hce' k hlt
      have c1 := (hw.cell (p := ⟨g, off + k * 3, none⟩) hgs).trans p1
      have c2 := (hw.cell (p := ⟨g, off + k * 3 + 1, none⟩) hgs).trans p2
      have c3 := (hw.cell (p := ⟨g, off + k * 3 + 2, none⟩) hgs).trans p3
      have d1 := (hw.cell (p := ⟨g', off' + k * 3, none⟩) hgs').trans q1
      have d2 := (hw.cell (p := ⟨g', off' + k * 3 + 1, none⟩) hgs').trans q2
      have d3 := (hw.cell (p := ⟨g', off' + k * 3 + 2, none⟩) hgs').trans q3
      generalize (⟨(ts[k]).1.toArray⟩ : ByteArray) = x at c1 d1
      generalize (ts[k]).2.1 = y at c2 d2
      generalize (⟨(ts[k]).2.2.toArray⟩ : ByteArray) = z at c3 d3
      have hsz := hw.size
      have hgr : g < wr.heap.size := by omega
      have hgr' : g' < wr.heap.size := by omega
      clear hce hce' p1 p2 p3 q1 q2 q3
      have hki : (k : Int) < (ts.length : Int) := by omega
      have hk0 : (0 : Int) ≤ (k : Int) := by omega
      go_wp2_with fail
      go_quiet (fail)
      go_wp2_with fail
      go_roundw
      case rel => exact ⟨k + 1, by omega, by go_num, (hw.alloc (by omega) _).trans (drewN_below _ _ _)⟩
      case measure => simp [intOf]; omega
    · go_wp2_with fail
      go_ret
      exact ⟨rfl, hw⟩
end Go.Proofs.YtoccjnbodoiibaaDoor
