/-
  What Set, Has and Without of the document's answers compute; lists and texts are no longer than Go allows.
-/
import Derived.Test.YtflkgpjapgkgmaaSpecG
import Derived.Test.YtflkgpjapgkgmaaWPick
import Derived.Test.YtflkgpjapgkgmaaWRGet
namespace Go.Proofs.Ytflkgpjapgkgmaa
open Go.RowKit

theorem rest1_take (s : List UInt8) (ls : List Fld) (k : Nat) (h : k < ls.length) : rest1 s (ls.take (k + 1)) = rest1 s (ls.take k) ++ (if nm s ls[k] then [] else [ls[k]]) := by
  rw [List.take_succ_eq_append_getElem h, rest1_app]
  congr 1
  unfold rest1
  rw [List.filter_cons]
  cases nm s ls[k] <;> rfl
/-- What Set of the document has put together behind k fields. -/
def setK (s v : List UInt8) (ls : List Fld) (k : Nat) : List Fld × Bool :=
  (ls.take k).foldl (fun o x => if nm s x then (if o.2 then o else (o.1 ++ [(s, v)], true)) else (o.1 ++ [x], o.2)) ([], false)
theorem setK_zero (s v : List UInt8) (ls : List Fld) : setK s v ls 0 = ([], false) := by simp [setK]
theorem setK_other (s v : List UInt8) (ls : List Fld) (k : Nat) (h : k < ls.length) (hn : nm s ls[k] = false) : setK s v ls (k + 1) = ((setK s v ls k).1 ++ [ls[k]], (setK s v ls k).2) := by
  unfold setK
  rw [List.take_succ_eq_append_getElem h, List.foldl_append]
  simp [hn]
theorem setK_hit (s v : List UInt8) (ls : List Fld) (k : Nat) (h : k < ls.length) (hn : nm s ls[k] = true) (hq : (setK s v ls k).2 = false) : setK s v ls (k + 1) = ((setK s v ls k).1 ++ [(s, v)], true) := by
  unfold setK at hq ⊢
  rw [List.take_succ_eq_append_getElem h, List.foldl_append]
  simp [hn, hq]
theorem setK_skip (s v : List UInt8) (ls : List Fld) (k : Nat) (h : k < ls.length) (hn : nm s ls[k] = true) (hq : (setK s v ls k).2 = true) : setK s v ls (k + 1) = setK s v ls k := by
  unfold setK at hq ⊢
  rw [List.take_succ_eq_append_getElem h, List.foldl_append]
  simp [hn, hq]
theorem setK_len (s v : List UInt8) (ls : List Fld) (k : Nat) : (setK s v ls k).1.length ≤ k := by
  induction k with
  | zero => simp [setK_zero]
  | succ k ih =>
    by_cases h : k < ls.length
    · cases hn : nm s ls[k]
      · rw [setK_other s v ls k h hn]; simp; exact ih
      · cases hq : (setK s v ls k).2
        · rw [setK_hit s v ls k h hn hq]; simp; exact ih
        · rw [setK_skip s v ls k h hn hq]; omega
    · have e : setK s v ls (k + 1) = setK s v ls k := by
        unfold setK
        rw [List.take_of_length_le (by omega), List.take_of_length_le (by omega)]
      rw [e]; omega
theorem setK_is (s v : List UInt8) (ls : List Fld) (k : Nat) (hk : k ≤ ls.length) :
    ((setK s v ls k).2 = false → (setK s v ls k).1 = ls.take k ∧ ∀ x ∈ ls.take k, nm s x = false) ∧ ((setK s v ls k).2 = true → (setK s v ls k).1 ++ rest1 s (ls.drop k) = setS s v ls) := by
  induction k with
  | zero =>
    rw [setK_zero]
    exact ⟨fun _ => ⟨by simp, fun x hx => by simp at hx⟩, fun h => by cases h⟩
  | succ k ih =>
    have h : k < ls.length := by omega
    obtain ⟨i1, i2⟩ := ih (by omega)
    have hd : ls.drop k = ls[k] :: ls.drop (k + 1) := List.drop_eq_getElem_cons h
    cases hn : nm s ls[k]
    · rw [setK_other s v ls k h hn]
      refine ⟨fun hq => ?_, fun hq => ?_⟩
      · obtain ⟨e1, e2⟩ := i1 hq
        rw [List.take_succ_eq_append_getElem h]
        refine ⟨by rw [← e1], fun x hx => ?_⟩
        rcases List.mem_append.1 hx with hx | hx
        · exact e2 x hx
        · rw [List.mem_singleton.1 hx]; exact hn
      · have e := i2 hq
        rw [hd] at e
        have er : rest1 s (ls[k] :: ls.drop (k + 1)) = ls[k] :: rest1 s (ls.drop (k + 1)) := by unfold rest1; rw [List.filter_cons, hn]; rfl
        rw [er] at e
        rw [← e]; simp
    · cases hq : (setK s v ls k).2
      · rw [setK_hit s v ls k h hn hq]
        refine ⟨(fun h => by cases h), fun _ => ?_⟩
        obtain ⟨e1, e2⟩ := i1 hq
        have e : setS s v ls = setS s v (ls.take k ++ ls.drop k) := by rw [List.take_append_drop]
        rw [e, setS_skip s v _ _ e2, hd, setS_hit s v _ _ hn, e1]; simp
      · rw [setK_skip s v ls k h hn hq]
        refine ⟨fun h => (by rw [hq] at h; cases h), fun _ => ?_⟩
        have e := i2 hq
        rw [hd] at e
        have er : rest1 s (ls[k] :: ls.drop (k + 1)) = rest1 s (ls.drop (k + 1)) := by unfold rest1; rw [List.filter_cons, hn]; rfl
        rw [er] at e
        exact e
theorem setK_end (s v : List UInt8) (ls : List Fld) : setS s v ls = if (setK s v ls ls.length).2 then (setK s v ls ls.length).1 else (setK s v ls ls.length).1 ++ [(s, v)] := by
  obtain ⟨i1, i2⟩ := setK_is s v ls ls.length (Nat.le_refl _)
  cases hq : (setK s v ls ls.length).2
  · obtain ⟨e1, e2⟩ := i1 hq
    rw [List.take_length] at e1 e2
    have e : setS s v ls = setS s v (ls ++ []) := by rw [List.append_nil]
    rw [e, setS_skip s v _ _ e2, e1]; simp [setS]
  · have e := i2 hq
    rw [List.drop_length] at e
    rw [← e]; simp [rest1]

set_option maxHeartbeats 4000000 in
set_option maxRecDepth 100000 in
theorem rset_any (v : Value) (ls : List Fld) (s u : ByteArray) (w : World) (hf : Fl w v ls) (hl : Wide ls) (hs : s.size ≤ 140737488351232) :
    Calls Try.prog 9 #[v, .string s, .string u] w fun e w' => ∃ v', e = .returned v' ∧ w'.ownsRow w.heap.size 28 2 v' (setS s.data.toList u.data.toList ls).length (flds (setS s.data.toList u.data.toList ls)) ∧ Below w.heap.size w w' := by
  obtain ⟨i0, hi, hz0, hz1, hz2⟩ := info_parts infoF
  obtain ⟨ad, cap, hv, hcap, hcm, hc⟩ := hf
  subst hv
  have HC : Hid (0 < ls.length → ∃ g off, ad = some ⟨g, off, none⟩ ∧ g < w.heap.size ∧
    ∀ (k : Nat) (h : k < ls.length), w.cell? ⟨g, off + k * 2, none⟩ = some (.string ⟨(ls[k]).1.toArray⟩) ∧ w.cell? ⟨g, off + k * 2 + 1, none⟩ = some (.string ⟨(ls[k]).2.toArray⟩)) := hc
  have HL : Hid (Wide ls) := hl
  have hll := hl.2
  obtain ⟨t2, ht2⟩ : ∃ t2 : ByteArray, t2.data.toList = lower s.data.toList := ⟨⟨(lower s.data.toList).toArray⟩, rfl⟩
  have HT2 : Hid (t2.data.toList = lower s.data.toList) := ht2
  clear hc hl ht2
  unfold maxLen at hcm
  go_enter Try.func9, Try.ntmps9
  go_wp2_with fail
  go_loopw [7, 8, 13] (fun o q i wr => ∃ (k : Nat) (P : List Fld) (c : Bool), k ≤ ls.length ∧ i = .int .i64 k ∧ q = .bool c ∧ setK s.data.toList u.data.toList ls k = (P, c) ∧ wr.ownsRow w.heap.size 28 2 o P.length (flds P) ∧ Below w.heap.size w wr) (fun _ _ i _ => ls.length - (intOf i).toNat)
  case atStart => exact ⟨0, [], false, Nat.zero_le _, rfl, rfl, setK_zero _ _ _, World.ownsRow_nil _ _ _ _, Below.refl _ _⟩
  case round =>
    obtain ⟨k, P, c, hk, rfl, rfl, hK, hown, hw⟩ := hrel
    have hsz := hw.size
    have HK : Hid (setK s.data.toList u.data.toList ls k = (P, c)) := hK
    have hPl : P.length ≤ k := by have := setK_len s.data.toList u.data.toList ls k; rw [hK] at this; exact this
    clear hK
    by_cases hlt : k < ls.length
    · obtain ⟨g, off, rfl, hgs, hce⟩ := HC.out (by omega)
      obtain ⟨c1, c2⟩ := hce k hlt
      have hmo := HL.out.1 ls[k] (List.getElem_mem hlt)
      obtain ⟨n, hn⟩ : ∃ n : ByteArray, n = ⟨(ls[k]).1.toArray⟩ := ⟨_, rfl⟩
      obtain ⟨x, hx⟩ : ∃ x : ByteArray, x = ⟨(ls[k]).2.toArray⟩ := ⟨_, rfl⟩
      have hns : n.size ≤ 140737488351232 := by rw [← size_list, hn]; exact hmo.1
      have HE : Hid ((n.data.toList, x.data.toList) = ls[k]) := by show _ = _; rw [hn, hx]
      obtain ⟨t1, ht1⟩ : ∃ t1 : ByteArray, t1.data.toList = lower n.data.toList := ⟨⟨(lower n.data.toList).toArray⟩, rfl⟩
      have HT1 : Hid (t1.data.toList = lower n.data.toList) := ht1
      have HNM := nm_is n s t1 t2 x.data.toList ht1 HT2.out
      rw [HE.out] at HNM
      have d1 : wr.cell? ⟨g, off + k * 2, none⟩ = some (.string n) := by rw [hw.cell (p := ⟨g, off + k * 2, none⟩) hgs, hn]; exact c1
      have d2 : wr.cell? ⟨g, off + k * 2 + 1, none⟩ = some (.string x) := by rw [hw.cell (p := ⟨g, off + k * 2 + 1, none⟩) hgs, hx]; exact c2
      have hgr : g < wr.heap.size := by omega
      clear hce c1 c2 hmo hn hx ht1
      have hki : (k : Int) < (ls.length : Int) := by omega
      have hk0 : (0 : Int) ≤ (k : Int) := by omega
      have hown0 := hown.alloc (.cells #[.string n, .string x] 28)
      have hw0 := hw.alloc hsz (.cells #[.string n, .string x] 28)
      clear hown
      cases hq : (t1.toList == t2.toList)
      · have HNX : Hid (setK s.data.toList u.data.toList ls (k + 1) = (P ++ [(n.data.toList, x.data.toList)], c)) := by
          show _ = _
          rw [setK_other _ _ ls k hlt (by rw [HNM, hq]), HK.out, HE.out]
        clear HNM
        go_wp2_with fail
        refine (rlower_at n t1 HT1.out _ hns).mono ?_
        rintro e w1 ⟨rfl, rfl⟩
        go_wp2_with fail
        refine (rlower_at s t2 HT2.out _ hs).mono ?_
        rintro e w2 ⟨rfl, rfl⟩
        go_wp2_with (at_builtin; refine wpList_append_own _ rfl _ _ 22 rfl w.heap.size 28 i0 (.agg #[.string ⟨#[]⟩, .string ⟨#[]⟩]) 2 32 Try.underlying22 hi hz0 hz1 hz2 rfl (by decide) _ _ _ rfl (hown0.alloc _) ⟨wr.heap.size + 1, 0, none⟩ 1 1 [.string n, .string x] rfl rfl ?c1 ?c2 ?c3 ?c4 ?c5 ?_)
        case c1 =>
          intro j z h
          match j, h with
          | 0, h => simp at h; subst h; simp [Addr.add]
          | 1, h => simp at h; subst h; simp [Addr.add]
        case c2 => intro z hx; simp at hx; rcases hx with rfl | rfl <;> rfl
        case c3 => unfold maxLen; omega
        case c4 => omega
        case c5 => simp; omega
        · intro v' w4 hown' hgrow _
          have hB : Below w.heap.size w w4 := (hw0.alloc (by simp; omega) _).grown hgrow (by simp; omega) (fun b hb => ((hown0.alloc (.cells #[.string n, .string x] 28)).lt b hb).1)
          have hown4 : w4.ownsRow w.heap.size 28 2 v' (P ++ [(n.data.toList, x.data.toList)]).length (flds (P ++ [(n.data.toList, x.data.toList)])) := by
            rw [← flds_snoc, List.length_append]; exact hown'
          clear hown' hgrow hown0 hw0
          go_wp2_with fail
          go_roundw
          case rel => exact ⟨k + 1, _, c, by omega, by go_num, rfl, HNX.out, hown4, hB⟩
          case measure => simp [intOf]; omega
      · cases c
        · have HNX : Hid (setK s.data.toList u.data.toList ls (k + 1) = (P ++ [(s.data.toList, u.data.toList)], true)) := by
            show _ = _
            rw [setK_hit _ _ ls k hlt (by rw [HNM, hq]) (by rw [HK.out]), HK.out]
          clear HNM
          go_wp2_with fail
          refine (rlower_at n t1 HT1.out _ hns).mono ?_
          rintro e w1 ⟨rfl, rfl⟩
          go_wp2_with fail
          refine (rlower_at s t2 HT2.out _ hs).mono ?_
          rintro e w2 ⟨rfl, rfl⟩
          go_wp2_with (at_builtin; refine wpList_append_own _ rfl _ _ 22 rfl w.heap.size 28 i0 (.agg #[.string ⟨#[]⟩, .string ⟨#[]⟩]) 2 32 Try.underlying22 hi hz0 hz1 hz2 rfl (by decide) _ _ _ rfl (hown0.alloc _) ⟨wr.heap.size + 1, 0, none⟩ 1 1 [.string s, .string u] rfl rfl ?c1 ?c2 ?c3 ?c4 ?c5 ?_)
          case c1 =>
            intro j z h
            match j, h with
            | 0, h => simp at h; subst h; simp [Addr.add]
            | 1, h => simp at h; subst h; simp [Addr.add]
          case c2 => intro z hx; simp at hx; rcases hx with rfl | rfl <;> rfl
          case c3 => unfold maxLen; omega
          case c4 => omega
          case c5 => simp; omega
          · intro v' w4 hown' hgrow _
            have hB : Below w.heap.size w w4 := (hw0.alloc (by simp; omega) _).grown hgrow (by simp; omega) (fun b hb => ((hown0.alloc (.cells #[.string s, .string u] 28)).lt b hb).1)
            have hown4 : w4.ownsRow w.heap.size 28 2 v' (P ++ [(s.data.toList, u.data.toList)]).length (flds (P ++ [(s.data.toList, u.data.toList)])) := by
              rw [← flds_snoc, List.length_append]; exact hown'
            clear hown' hgrow hown0 hw0
            go_wp2_with fail
            go_roundw
            case rel => exact ⟨k + 1, _, true, by omega, by go_num, rfl, HNX.out, hown4, hB⟩
            case measure => simp [intOf]; omega
        · have HNX : Hid (setK s.data.toList u.data.toList ls (k + 1) = (P, true)) := by
            show _ = _
            rw [setK_skip _ _ ls k hlt (by rw [HNM, hq]) (by rw [HK.out]), HK.out]
          clear HNM
          go_wp2_with fail
          refine (rlower_at n t1 HT1.out _ hns).mono ?_
          rintro e w1 ⟨rfl, rfl⟩
          go_wp2_with fail
          refine (rlower_at s t2 HT2.out _ hs).mono ?_
          rintro e w2 ⟨rfl, rfl⟩
          go_wp2_with fail
          go_roundw
          case rel => exact ⟨k + 1, P, true, by omega, by go_num, rfl, HNX.out, hown0, hw0⟩
          case measure => simp [intOf]; omega
    · obtain rfl : k = ls.length := by omega
      have HEND := setK_end s.data.toList u.data.toList ls
      rw [HK.out] at HEND
      cases c
      · have HE : Hid (setS s.data.toList u.data.toList ls = P ++ [(s.data.toList, u.data.toList)]) := by show _ = _; rw [HEND]; rfl
        clear HEND
        go_wp2_with (at_builtin; refine wpList_append_own _ rfl _ _ 22 rfl w.heap.size 28 i0 (.agg #[.string ⟨#[]⟩, .string ⟨#[]⟩]) 2 32 Try.underlying22 hi hz0 hz1 hz2 rfl (by decide) _ _ _ rfl (hown.alloc _) ⟨wr.heap.size, 0, none⟩ 1 1 [.string s, .string u] rfl rfl ?c1 ?c2 ?c3 ?c4 ?c5 ?_)
        case c1 =>
          intro j z h
          match j, h with
          | 0, h => simp at h; subst h; simp [Addr.add]
          | 1, h => simp at h; subst h; simp [Addr.add]
        case c2 => intro z hx; simp at hx; rcases hx with rfl | rfl <;> rfl
        case c3 => unfold maxLen; omega
        case c4 => omega
        case c5 => simp; omega
        · intro v' w4 hown' hgrow _
          have hB : Below w.heap.size w w4 := (hw.alloc (by omega) _).grown hgrow (by simp; omega) (fun b hb => ((hown.alloc (.cells #[.string s, .string u] 28)).lt b hb).1)
          have HO : Hid (w4.ownsRow w.heap.size 28 2 v' (setS s.data.toList u.data.toList ls).length (flds (setS s.data.toList u.data.toList ls))) := by
            show World.ownsRow _ _ _ _ _ _ _
            rw [HE.out, ← flds_snoc, List.length_append]; exact hown'
          clear hown' hgrow hown hw
          go_wp2_with fail
          go_ret
          exact ⟨_, rfl, HO.out, hB⟩
      · have HE : Hid (setS s.data.toList u.data.toList ls = P) := by show _ = _; rw [HEND]; rfl
        clear HEND
        go_wp2_with fail
        go_ret
        exact ⟨_, rfl, by rw [HE.out]; exact hown, hw⟩

set_option maxHeartbeats 1000000 in
set_option maxRecDepth 100000 in
theorem has_one (g : Nat) (low x : ByteArray) (b : Bool) (hb : b = (x.toList == low.toList)) (w : World) (hc : w.cell? ⟨g, 0, none⟩ = some (.string low)) :
    Calls Try.prog 19 #[.slice (some ⟨g, 0, none⟩) 1 1, .string x] w fun e w' => e = .returned (.bool b) ∧ w' = w := by
  cases hq : (x.toList == low.toList)
  · have HB : Hid (b = false) := by show _ = _; rw [hb, hq]
    clear hb
    go_enter Try.func19, Try.ntmps19
    go_wp2_with fail
    go_loop [9] (fun i => ∃ k : Nat, k ≤ 1 ∧ i = .int .i64 k) (fun i => 1 - (intOf i).toNat)
    case atStart => exact ⟨0, by omega, rfl⟩
    case round =>
      obtain ⟨k, hk, rfl⟩ := hrel
      rcases (show k = 0 ∨ k = 1 from by omega) with rfl | rfl
      · go_wp2_with fail
        go_round
        case rel => exact ⟨1, by omega, rfl⟩
        case measure => simp [intOf]
      · go_wp2_with fail
        go_ret
        exact ⟨ret_bool HB.out.symm, rfl⟩
  · have HB : Hid (b = true) := by show _ = _; rw [hb, hq]
    clear hb
    go_enter Try.func19, Try.ntmps19
    go_wp2_with fail
    go_loop [9] (fun i => i = .int .i64 0) (fun _ => 0)
    case atStart => exact rfl
    case round =>
      subst hrel
      go_wp2_with fail
      go_ret
      exact ⟨ret_bool HB.out.symm, rfl⟩

set_option maxHeartbeats 4000000 in
set_option maxRecDepth 100000 in
theorem without_any (v : Value) (ls : List Fld) (s low : ByteArray) (hlow : low.data.toList = lower s.data.toList) (g1 : Nat) (w : World) (hf : Fl w v ls) (hl : Wide ls) (hc1 : w.cell? ⟨g1, 0, none⟩ = some (.string low)) :
    Calls Try.prog 11 #[v, .slice (some ⟨g1, 0, none⟩) 1 1] w fun e w' => ∃ v', e = .returned v' ∧ w'.ownsRow w.heap.size 28 2 v' (rest1 s.data.toList ls).length (flds (rest1 s.data.toList ls)) ∧ Below w.heap.size w w' := by
  obtain ⟨i0, hi, hz0, hz1, hz2⟩ := info_parts infoF
  obtain ⟨ad, cap, hv, hcap, hcm, hc⟩ := hf
  subst hv
  have HC : Hid (0 < ls.length → ∃ g off, ad = some ⟨g, off, none⟩ ∧ g < w.heap.size ∧
    ∀ (k : Nat) (h : k < ls.length), w.cell? ⟨g, off + k * 2, none⟩ = some (.string ⟨(ls[k]).1.toArray⟩) ∧ w.cell? ⟨g, off + k * 2 + 1, none⟩ = some (.string ⟨(ls[k]).2.toArray⟩)) := hc
  have HL : Hid (Wide ls) := hl
  have hll := hl.2
  have HLOW : Hid (low.data.toList = lower s.data.toList) := hlow
  have HC1 : Hid (w.cell? ⟨g1, 0, none⟩ = some (.string low)) := hc1
  clear hc hl hlow hc1
  unfold maxLen at hcm
  go_enter Try.func11, Try.ntmps11
  go_wp2_with fail
  go_loopw [5, 10] (fun o i wr => ∃ k : Nat, k ≤ ls.length ∧ i = .int .i64 k ∧ wr.ownsRow w.heap.size 28 2 o (rest1 s.data.toList (ls.take k)).length (flds (rest1 s.data.toList (ls.take k))) ∧ Below w.heap.size w wr) (fun _ i _ => ls.length - (intOf i).toNat)
  case atStart => exact ⟨0, Nat.zero_le _, rfl, World.ownsRow_nil _ _ _ _, Below.refl _ _⟩
  case round =>
    obtain ⟨k, hk, rfl, hown, hw⟩ := hrel
    have hsz := hw.size
    have hPl : (rest1 s.data.toList (ls.take k)).length ≤ k := by
      have h1 := List.length_filter_le (fun x => !nm s.data.toList x) (ls.take k)
      have h2 := List.length_take_le k ls
      unfold rest1; omega
    by_cases hlt : k < ls.length
    · obtain ⟨g, off, rfl, hgs, hce⟩ := HC.out (by omega)
      obtain ⟨c1, c2⟩ := hce k hlt
      have hmo := HL.out.1 ls[k] (List.getElem_mem hlt)
      obtain ⟨n, hn⟩ : ∃ n : ByteArray, n = ⟨(ls[k]).1.toArray⟩ := ⟨_, rfl⟩
      obtain ⟨x, hx⟩ : ∃ x : ByteArray, x = ⟨(ls[k]).2.toArray⟩ := ⟨_, rfl⟩
      have hns : n.size ≤ 140737488351232 := by rw [← size_list, hn]; exact hmo.1
      have HE : Hid ((n.data.toList, x.data.toList) = ls[k]) := by show _ = _; rw [hn, hx]
      obtain ⟨t1, ht1⟩ : ∃ t1 : ByteArray, t1.data.toList = lower n.data.toList := ⟨⟨(lower n.data.toList).toArray⟩, rfl⟩
      have HT1 : Hid (t1.data.toList = lower n.data.toList) := ht1
      have HNM := nm_is n s t1 low x.data.toList ht1 HLOW.out
      rw [HE.out] at HNM
      have HR := rest1_take s.data.toList ls k hlt
      have d1 : wr.cell? ⟨g, off + k * 2, none⟩ = some (.string n) := by rw [hw.cell (p := ⟨g, off + k * 2, none⟩) hgs, hn]; exact c1
      have d2 : wr.cell? ⟨g, off + k * 2 + 1, none⟩ = some (.string x) := by rw [hw.cell (p := ⟨g, off + k * 2 + 1, none⟩) hgs, hx]; exact c2
      have hgr : g < wr.heap.size := by omega
      clear hce c1 c2 hmo hn hx ht1
      have hki : (k : Int) < (ls.length : Int) := by omega
      have hk0 : (0 : Int) ≤ (k : Int) := by omega
      have hown0 := hown.alloc (.cells #[.string n, .string x] 28)
      have hw0 := hw.alloc hsz (.cells #[.string n, .string x] 28)
      have HC2 : Hid ((wr.alloc (.cells #[.string n, .string x] 28)).cell? ⟨g1, 0, none⟩ = some (.string low)) := cell_keep hw0 HC1.out
      clear hown
      cases hq : (t1.toList == low.toList)
      · have HQ : Hid (false = (t1.toList == low.toList)) := hq.symm
        have HR2 : Hid (rest1 s.data.toList (ls.take (k + 1)) = rest1 s.data.toList (ls.take k) ++ [(n.data.toList, x.data.toList)]) := by show _ = _; rw [HR, HNM, hq, HE.out]; rfl
        clear HR HNM hq
        go_wp2_with fail
        refine (rlower_at n t1 HT1.out _ hns).mono ?_
        rintro e w1 ⟨rfl, rfl⟩
        go_wp2_with fail
        refine (has_one g1 low t1 false HQ.out _ HC2.out).mono ?_
        rintro e w2 ⟨rfl, rfl⟩
        go_wp2_with (at_builtin; refine wpList_append_own _ rfl _ _ 22 rfl w.heap.size 28 i0 (.agg #[.string ⟨#[]⟩, .string ⟨#[]⟩]) 2 32 Try.underlying22 hi hz0 hz1 hz2 rfl (by decide) _ _ _ rfl (hown0.alloc _) ⟨wr.heap.size + 1, 0, none⟩ 1 1 [.string n, .string x] rfl rfl ?c1 ?c2 ?c3 ?c4 ?c5 ?_)
        case c1 =>
          intro j z h
          match j, h with
          | 0, h => simp at h; subst h; simp [Addr.add]
          | 1, h => simp at h; subst h; simp [Addr.add]
        case c2 => intro z hx; simp at hx; rcases hx with rfl | rfl <;> rfl
        case c3 => unfold maxLen; omega
        case c4 => omega
        case c5 => simp; omega
        · intro v' w4 hown' hgrow _
          have hB : Below w.heap.size w w4 := (hw0.alloc (by simp; omega) _).grown hgrow (by simp; omega) (fun b hb => ((hown0.alloc (.cells #[.string n, .string x] 28)).lt b hb).1)
          have hown4 : w4.ownsRow w.heap.size 28 2 v' (rest1 s.data.toList (ls.take (k + 1))).length (flds (rest1 s.data.toList (ls.take (k + 1)))) := by
            rw [HR2.out, ← flds_snoc, List.length_append]; exact hown'
          clear hown' hgrow hown0 hw0
          go_wp2_with fail
          go_roundw
          case rel => exact ⟨k + 1, by omega, by go_num, hown4, hB⟩
          case measure => simp [intOf]; omega
      · have HQ : Hid (true = (t1.toList == low.toList)) := hq.symm
        have HR2 : Hid (rest1 s.data.toList (ls.take (k + 1)) = rest1 s.data.toList (ls.take k)) := by show _ = _; rw [HR, HNM, hq]; simp
        clear HR HNM hq
        go_wp2_with fail
        refine (rlower_at n t1 HT1.out _ hns).mono ?_
        rintro e w1 ⟨rfl, rfl⟩
        go_wp2_with fail
        refine (has_one g1 low t1 true HQ.out _ HC2.out).mono ?_
        rintro e w2 ⟨rfl, rfl⟩
        go_wp2_with fail
        go_roundw
        case rel => exact ⟨k + 1, by omega, by go_num, by rw [HR2.out]; exact hown0, hw0⟩
        case measure => simp [intOf]; omega
    · obtain rfl : k = ls.length := by omega
      rw [List.take_length] at hown
      go_wp2_with fail
      go_ret
      exact ⟨_, rfl, hown, hw⟩
end Go.Proofs.Ytflkgpjapgkgmaa
