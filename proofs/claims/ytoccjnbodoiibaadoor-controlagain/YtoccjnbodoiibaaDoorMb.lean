/-
  Plain functions on fields: those of a name, their values as one list, one set in the place of the first, all but those of a name; no program is named here.
-/
import Derived.Test.YtoccjnbodoiibaaDoorMa
import Derived.Lib.Join
import Derived.Test.YtoccjnbodoiibaaDoorShelf
import Derived.Test.YtoccjnbodoiibaaDoorRows
import Derived.BigQuiet
import Derived.Deep.QuietTactic
import Derived.Below
import Derived.Shelf.Strings.Builder1
import Derived.Shelf.Strings.BuilderK
namespace Go.Proofs.YtoccjnbodoiibaaDoor
open Go.RowKit

/-- Is a field of that name? -/
def nm (s : List UInt8) (x : Fld) : Bool := lower x.1 == lower s
def vals (ls : List Fld) (s : List UInt8) : List (List UInt8) := (ls.filter (nm s)).map (·.2)
def jn (P : List (List UInt8)) : List UInt8 := Lib.join P [44, 32]
def rest1 (s : List UInt8) (ls : List Fld) : List Fld := ls.filter fun x => !nm s x
def setS (s v : List UInt8) : List Fld → List Fld
  | [] => [(s, v)]
  | x :: r => if nm s x then (s, v) :: rest1 s r else x :: setS s v r

theorem tail_app (sep : List UInt8) (a b : List (List UInt8)) : Lib.joinTail sep (a ++ b) = Lib.joinTail sep a ++ Lib.joinTail sep b := by simp [Lib.joinTail]
theorem jn_app (a : List UInt8) (r b : List (List UInt8)) : jn (a :: r ++ b) = jn (a :: r) ++ Lib.joinTail [44, 32] b := by
  unfold jn
  rw [List.cons_append, Lib.join_cons, Lib.join_cons, tail_app, List.append_assoc]
theorem tail_one (sep x : List UInt8) : Lib.joinTail sep [x] = sep ++ x := by simp [Lib.joinTail]
theorem jn_snoc (P : List (List UInt8)) (x : List UInt8) : jn (P ++ [x]) = if P = [] then x else jn P ++ [44, 32] ++ x := by
  cases P with
  | nil => simp [jn, Lib.join_one]
  | cons a r =>
    rw [jn_app, tail_one]
    simp
theorem jn_both (P Q : List (List UInt8)) (hp : P ≠ []) (hq : Q ≠ []) : jn (P ++ Q) = jn P ++ [44, 32] ++ jn Q := by
  cases P with
  | nil => exact absurd rfl hp
  | cons a r =>
    cases Q with
    | nil => exact absurd rfl hq
    | cons b q =>
      rw [jn_app]
      unfold jn
      rw [Lib.join_cons b q]
      simp [Lib.joinTail]
theorem vals_app (a b : List Fld) (s : List UInt8) : vals (a ++ b) s = vals a s ++ vals b s := by simp [vals]
theorem vals_take (ls : List Fld) (s : List UInt8) (k : Nat) (h : k < ls.length) : vals (ls.take (k + 1)) s = vals (ls.take k) s ++ (if nm s ls[k] then [ls[k].2] else []) := by
  rw [List.take_succ_eq_append_getElem h, vals_app]
  congr 1
  unfold vals
  rw [List.filter_cons]
  split <;> rfl
theorem bulkF_app (a b : List Fld) : bulkF (a ++ b) = bulkF a + bulkF b := by simp [bulkF]
theorem bulkF_cons (x : Fld) (r : List Fld) : bulkF (x :: r) = x.1.length + x.2.length + 3 + bulkF r := by simp [bulkF]
theorem lens_vals (ls : List Fld) (s : List UInt8) : Lib.lens (vals ls s) + 2 * (vals ls s).length ≤ bulkF ls := by
  induction ls with
  | nil => simp [vals, Lib.lens]
  | cons x r ih =>
    have e : vals (x :: r) s = (if nm s x then [x.2] else []) ++ vals r s := by
      unfold vals
      rw [List.filter_cons]
      split <;> rfl
    rw [e, bulkF_cons]
    split
    · simp only [List.cons_append, List.nil_append, List.length_cons, Lib.lens, List.map_cons, List.sum_cons] at ih ⊢
      omega
    · simp only [List.nil_append]
      omega
theorem jn_len (P : List (List UInt8)) : (jn P).length ≤ Lib.lens P + 2 * P.length := by
  cases P with
  | nil => simp [jn, Lib.join_nil, Lib.lens]
  | cons a r =>
    unfold jn
    rw [Lib.join_length]
    simp only [List.length_cons, List.length_nil]
    omega
theorem jn_bulk (ls : List Fld) (s : List UInt8) : (jn (vals ls s)).length ≤ bulkF ls := Nat.le_trans (jn_len _) (lens_vals ls s)
theorem bulk_most (ls : List Fld) : ∀ x ∈ ls, x.1.length ≤ bulkF ls ∧ x.2.length ≤ bulkF ls := by
  induction ls with
  | nil => intro x hx; cases hx
  | cons a r ih =>
    intro x hx
    rw [bulkF_cons]
    rcases List.mem_cons.1 hx with rfl | hx
    · omega
    · have := ih x hx; omega
theorem bulk_len (ls : List Fld) : 3 * ls.length ≤ bulkF ls := by
  induction ls with
  | nil => simp [bulkF]
  | cons a r ih => rw [bulkF_cons, List.length_cons]; omega

theorem rest1_app (s : List UInt8) (a b : List Fld) : rest1 s (a ++ b) = rest1 s a ++ rest1 s b := by simp [rest1]
theorem rest1_none (s : List UInt8) (a : List Fld) (h : ∀ x ∈ a, nm s x = false) : rest1 s a = a := by
  unfold rest1
  rw [List.filter_eq_self]
  intro x hx
  rw [h x hx]; rfl
theorem setS_skip (s v : List UInt8) (a b : List Fld) (h : ∀ x ∈ a, nm s x = false) : setS s v (a ++ b) = a ++ setS s v b := by
  induction a with
  | nil => rfl
  | cons x a ih =>
    rw [List.cons_append, setS, if_neg (by rw [h x (List.mem_cons_self ..)]; simp), ih fun y hy => h y (List.mem_cons_of_mem _ hy)]
    rfl
theorem setS_hit (s v : List UInt8) (x : Fld) (r : List Fld) (h : nm s x = true) : setS s v (x :: r) = (s, v) :: rest1 s r := by rw [setS, if_pos h]
/-- What Set of package field puts together: what is ahead of the place, the new one, and what is behind. -/
theorem setS_parts (s v : List UInt8) (ls : List Fld) (k : Nat) (hk : k ≤ ls.length) (h : ∀ x ∈ ls.take k, nm s x = false) (hh : k < ls.length → ∃ x r, ls.drop k = x :: r ∧ nm s x = true) :
    setS s v ls = rest1 s (ls.take k) ++ [(s, v)] ++ rest1 s (ls.drop k) := by
  have e : setS s v ls = setS s v (ls.take k ++ ls.drop k) := by rw [List.take_append_drop]
  rw [e, setS_skip s v _ _ h, rest1_none s _ h]
  by_cases hlt : k < ls.length
  · obtain ⟨x, r, hd, hx⟩ := hh hlt
    have er : rest1 s (x :: r) = rest1 s r := by unfold rest1; rw [List.filter_cons, hx]; rfl
    rw [hd, setS_hit s v x r hx, er]
    simp
  · have : ls.drop k = [] := List.drop_eq_nil_of_le (by omega)
    rw [this]
    simp [setS, rest1]
theorem setS_len (s v : List UInt8) (ls : List Fld) : (setS s v ls).length ≤ ls.length + 1 := by
  induction ls with
  | nil => simp [setS]
  | cons x r ih =>
    unfold setS
    split
    · have := List.length_filter_le (fun x => !nm s x) r
      simp only [List.length_cons, rest1]; omega
    · simp only [List.length_cons]; omega
theorem setS_mem (s v : List UInt8) (ls : List Fld) : ∀ x ∈ setS s v ls, x = (s, v) ∨ x ∈ ls := by
  induction ls with
  | nil => intro x hx; simp [setS] at hx; exact .inl hx
  | cons y r ih =>
    intro x hx
    unfold setS at hx
    split at hx
    · rcases List.mem_cons.1 hx with hx | hx
      · exact .inl hx
      · exact .inr (List.mem_cons_of_mem _ (List.mem_filter.1 hx).1)
    · rcases List.mem_cons.1 hx with hx | hx
      · exact .inr (by rw [hx]; exact List.mem_cons_self ..)
      · rcases ih x hx with h | h
        · exact .inl h
        · exact .inr (List.mem_cons_of_mem _ h)
end Go.Proofs.YtoccjnbodoiibaaDoor

/-
  Plain lemmas on fields that are set, dropped and read; no program is named here.
-/
namespace Go.Proofs.YtoccjnbodoiibaaDoor
open Go.RowKit

theorem low_low (c : UInt8) : low (low c) = low c := by
  have := byAll (fun c => low (low c) == low c) (by decide +kernel) c
  simpa using this
theorem lower_lower (l : List UInt8) : lower (lower l) = lower l := by
  unfold lower
  rw [List.map_map]
  apply List.map_congr_left
  intro c _
  exact low_low c
theorem nm_low (s s' : List UInt8) (h : lower s' = lower s) (x : Fld) : nm s' x = nm s x := by unfold nm; rw [h]
theorem vals_low (ls : List Fld) (s s' : List UInt8) (h : lower s' = lower s) : vals ls s' = vals ls s := by
  unfold vals
  have : nm s' = nm s := funext (nm_low s s' h)
  rw [this]
theorem vals_rest (ls : List Fld) (s : List UInt8) : vals (rest1 s ls) s = [] := by
  unfold vals rest1
  rw [List.filter_filter]
  have : (ls.filter fun a => nm s a && !nm s a) = [] := by
    rw [List.filter_eq_nil_iff]
    intro x _
    cases nm s x <;> simp
  rw [this]; rfl
theorem rest_comm (ls : List Fld) (a b : List UInt8) : rest1 b (rest1 a ls) = rest1 a (rest1 b ls) := by
  unfold rest1
  rw [List.filter_filter, List.filter_filter]
  congr 1
  funext x
  exact Bool.and_comm _ _
theorem rest_twice (ls : List Fld) (a : List UInt8) : rest1 a (rest1 a ls) = rest1 a ls := by
  unfold rest1
  rw [List.filter_filter]
  congr 1
  funext x
  exact Bool.and_self _
theorem rest_len (ls : List Fld) (a : List UInt8) : (rest1 a ls).length ≤ ls.length := List.length_filter_le _ _
theorem nm_self (s v : List UInt8) : nm s (s, v) = true := by simp [nm]
theorem vals_cons (x : Fld) (r : List Fld) (s : List UInt8) : vals (x :: r) s = if nm s x then x.2 :: vals r s else vals r s := by
  unfold vals
  rw [List.filter_cons]
  split <;> rfl
theorem vals_rest' (ls : List Fld) (s o : List UInt8) (h : lower o ≠ lower s) : vals (rest1 s ls) o = vals ls o := by
  unfold vals rest1
  rw [List.filter_filter]
  congr 2
  funext x
  unfold nm
  cases h1 : (lower x.1 == lower o)
  · rfl
  · have e1 : lower x.1 = lower o := by simpa using h1
    have : (lower x.1 == lower s) = false := by rw [e1]; simpa using h
    rw [this]; rfl
theorem vals_set (s v : List UInt8) (ls : List Fld) : vals (setS s v ls) s = [v] := by
  induction ls with
  | nil =>
    show vals [(s, v)] s = [v]
    rw [vals_cons, nm_self]; rfl
  | cons x r ih =>
    unfold setS
    split
    · rw [vals_cons, nm_self, vals_rest]; rfl
    · rename_i h
      rw [vals_cons, if_neg h, ih]
theorem vals_set_other (s v o : List UInt8) (ls : List Fld) (h : lower o ≠ lower s) : vals (setS s v ls) o = vals ls o := by
  have hn : nm o (s, v) = false := by
    unfold nm
    show (lower s == lower o) = false
    rw [beq_eq_false_iff_ne]
    exact fun e => h e.symm
  induction ls with
  | nil =>
    show vals [(s, v)] o = []
    rw [vals_cons, hn]; rfl
  | cons x r ih =>
    unfold setS
    split
    · rename_i hx
      have e1 : lower x.1 = lower s := by simpa [nm] using hx
      have hxo : nm o x = false := by
        unfold nm
        rw [e1, beq_eq_false_iff_ne]
        exact fun e => h e.symm
      rw [vals_cons, hn, vals_cons, hxo, vals_rest' r s o h]; simp
    · rw [vals_cons, vals_cons, ih]
theorem set_twice (s a b : List UInt8) (ls : List Fld) : setS s b (setS s a ls) = setS s b ls := by
  induction ls with
  | nil =>
    exact setS_hit s b (s, a) [] (nm_self s a)
  | cons x r ih =>
    cases hx : nm s x
    · rw [setS, if_neg (by rw [hx]; simp), setS, if_neg (by rw [hx]; simp), ih, setS, if_neg (by rw [hx]; simp)]
    · rw [setS_hit s a x r hx, setS_hit s b x r hx, setS_hit s b (s, a) _ (nm_self s a), rest_twice]
theorem jn_one (x : List UInt8) : jn [x] = x := by unfold jn; exact Lib.join_one _ _
end Go.Proofs.YtoccjnbodoiibaaDoor

/-
  What trim of package token and strings.Clone compute; a text is no longer than Go allows.
-/
namespace Go.Proofs.YtoccjnbodoiibaaDoor
open Go.RowKit

set_option maxRecDepth 100000 in
theorem trim_at (s t : ByteArray) (ht : t.data.toList = trimL s.data.toList) (w : World) (hs : s.size ≤ 100000) :
    Calls Tryd.prog 34 #[.string s] w fun e w' => e = .returned (.string t) ∧ Below w.heap.size w w' := by
  have HT : Hid (t.data.toList = trimL s.data.toList) := ht
  clear ht
  go_enter Tryd.func34, Tryd.ntmps34
  go_wp2_with fail
  refine (Tryd.strings_Trim_set s ⟨#[32, 9]⟩ _ (by omega) (by decide) (ascii_of_all (by decide))).mono ?_
  rintro e w1 ⟨rfl, hb⟩
  go_wp2_with fail
  go_ret
  refine ⟨ret_str ?_, hb⟩
  apply ByteArray.ext
  apply Array.ext'
  rw [HT.out]
  rfl

set_option maxRecDepth 100000 in
theorem clone_at (s : ByteArray) (w : World) (hs : s.size ≤ 100000) :
    Calls Tryd.prog 35 #[.string s] w fun e w' => e = .returned (.string s) ∧ Below w.heap.size w w' := by
  go_enter Tryd.func35, Tryd.ntmps35
  go_wp2_with fail
  refine (Tryd.stringslite_Clone s _ (by omega)).mono ?_
  rintro e w1 ⟨rfl, hb⟩
  go_wp2_with fail
  go_ret
  exact ⟨rfl, hb⟩
end Go.Proofs.YtoccjnbodoiibaaDoor

/-
  The row of the type of texts, and the cells of a block of one; over the program's table of types.
-/
namespace Go.Proofs.YtoccjnbodoiibaaDoor
open Go.RowKit

theorem info9 : (Tryd.prog.info? 9).map (fun i => (i.zero, i.size, i.bytes)) = some (some (.string ⟨#[]⟩), 1, 16) := by kernel_rfl
theorem one_cell (w : World) (v : Value) (t : TypeId) : ∀ (j : Nat) u, [v][j]? = some u → (w.alloc (.cells #[v] t)).cell? ((⟨w.heap.size, 0, none⟩ : Addr).add j) = some u := by
  intro j u h
  match j, h with
  | 0, h => simp at h; subst h; simp [Addr.add]
end Go.Proofs.YtoccjnbodoiibaaDoor

/-
  What cut of package token computes: the pieces of a text between the signs that are not within quotes; the text has at most 1000 bytes, and the sign is no quote and no stroke.
-/
namespace Go.Proofs.YtoccjnbodoiibaaDoor
open Go.RowKit

set_option maxHeartbeats 4000000 in
set_option maxRecDepth 100000 in
theorem cut_any (s : ByteArray) (sep : UInt8) (w : World) (hs : s.size ≤ 1000) (h34 : sep ≠ 34) :
    Calls Tryd.prog 33 #[.string s, .int .u8 (sep.toNat : Int)] w fun e w' => ∃ v, e = .returned (.tuple #[v, .bool (ends sep s.data.toList)]) ∧
      w'.ownsRow w.heap.size 9 1 v (pieces sep s.data.toList).length (strs (pieces sep s.data.toList)) ∧ Below w.heap.size w w' := by
  obtain ⟨i0, hi, hz0, hz1, hz2⟩ := info_parts info9
  have HS34 : Hid (sep ≠ 34) := h34
  clear h34
  go_enter Tryd.func33, Tryd.ntmps33
  go_wp2_with fail
  go_loopw [6, 7, 8, 9] (fun v st wi i wr => ∃ (k a : Nat) (ps : List (List UInt8)) (q cn : Bool), k ≤ s.size + 1 ∧ a ≤ k ∧ a ≤ s.size ∧ i = .int .i64 k ∧ st = .int .i64 a ∧ wi = .bool q ∧ (k ≤ s.size → cn = false) ∧
      cutS sep (s.data.toList.take k) = ⟨ps, (s.data.toList.drop a).take (k - a), q, cn⟩ ∧ wr.ownsRow w.heap.size 9 1 v ps.length (strs ps) ∧ Below w.heap.size w wr) (fun _ _ _ i _ => s.size + 1 - (intOf i).toNat)
  case atStart => exact ⟨0, 0, [], false, false, by omega, by omega, by omega, rfl, rfl, rfl, fun _ => rfl, by simp [cutS], World.ownsRow_nil _ _ _ _, Below.refl _ _⟩
  case round =>
    obtain ⟨k, a, ps, q, cn, hk, hak, has, rfl, rfl, rfl, hcn, hcut, hown, hw⟩ := hrel
    have hpl : ps.length ≤ 1000 := by
      have h1 := cutS_len sep (s.data.toList.take k)
      have h2 := List.length_take_le' k s.data.toList
      rw [hcut] at h1
      rw [size_list] at h2
      simp only at h1
      omega
    have hsz := hw.size
    have HC : Hid (cutS sep (s.data.toList.take k) = ⟨ps, (s.data.toList.drop a).take (k - a), q, cn⟩) := hcut
    clear hcut
    by_cases hlt : k < s.size
    · have hcn' := hcn (by omega)
      subst hcn'
      clear hcn
      have hc1 : (s[k].toNat : Int) < 256 := by have := s[k].toNat_lt; omega
      have HSN : Hid (∀ x, cstep sep ⟨ps, (s.data.toList.drop a).take (k - a), q, false⟩ s[k] = x → cutS sep (s.data.toList.take (k + 1)) = x) := by
        intro x hx
        rw [take_snoc s k hlt, cutS_snoc, HC.out, hx]
      by_cases hq34 : (s[k].toNat : Int) = 34
      · have hd1 : ((s[k].toNat : Int) == 92) = false := by rw [beq_eq_false_iff_ne]; omega
        have hd2 : ((s[k].toNat : Int) == 34) = true := by simp [hq34]
        have H34 : Hid ((s[k].toNat : Int) = 34) := hq34
        clear hq34
        cases q
        · go_wp2_with fail
          go_roundw
          case rel => exact ⟨k + 1, a, ps, true, false, by omega, by omega, by omega, by go_num, rfl, rfl, fun _ => rfl, by rw [seg_snoc s a k hak hlt]; exact HSN.out _ (cstep_quote sep HS34.out _ _ _ _ (eq_of_int _ 34 H34.out)), hown, hw⟩
          case measure => simp [intOf]; omega
        · go_wp2_with fail
          go_roundw
          case rel => exact ⟨k + 1, a, ps, false, false, by omega, by omega, by omega, by go_num, rfl, rfl, fun _ => rfl, by rw [seg_snoc s a k hak hlt]; exact HSN.out _ (cstep_quote sep HS34.out _ _ _ _ (eq_of_int _ 34 H34.out)), hown, hw⟩
          case measure => simp [intOf]; omega
      · have hd2 : ((s[k].toNat : Int) == 34) = false := by rw [beq_eq_false_iff_ne]; exact hq34
        have H34 : Hid ((s[k].toNat : Int) ≠ 34) := hq34
        clear hq34
        cases q
        · by_cases hsep : (s[k].toNat : Int) = (sep.toNat : Int)
          · have hd3 : ((s[k].toNat : Int) == (sep.toNat : Int)) = true := by simp [hsep]
            have HSP : Hid ((s[k].toNat : Int) = (sep.toNat : Int)) := hsep
            clear hsep
            go_wp2_with (at_builtin; refine wpList_append_own _ rfl _ _ 47 rfl w.heap.size 9 i0 (.string ⟨#[]⟩) 1 16 Tryd.underlying47 hi hz0 hz1 hz2 rfl (by decide) _ _ _ rfl (hown.alloc _) ⟨wr.heap.size, 0, none⟩ 1 1 [.string (s.extract a k)] rfl rfl ?c1 ?c2 ?c3 ?c4 ?c5 ?_)
            case c1 => exact one_cell _ _ _
            case c2 => intro u hu; simp at hu; subst hu; rfl
            case c3 => unfold maxLen; omega
            case c4 => omega
            case c5 => simp; omega
            · intro v' w1 hown' hgrow _
              have hB : Below w.heap.size w w1 := (hw.alloc (by omega) _).grown hgrow (by simp; omega) (fun b hb => ((hown.alloc (.cells #[.string (s.extract a k)] 9)).lt b hb).1)
              have hown2 : w1.ownsRow w.heap.size 9 1 v' (ps ++ [(s.data.toList.drop a).take (k - a)]).length (strs (ps ++ [(s.data.toList.drop a).take (k - a)])) := by
                rw [← strs_snoc, List.length_append, ← extract_seg]; exact hown'
              clear hown' hgrow hown hw
              go_wp2_with fail
              go_roundw
              case rel => exact ⟨k + 1, k + 1, _, false, false, by omega, by omega, by omega, by go_num, by go_num, rfl, fun _ => rfl, by rw [Nat.sub_self, List.take_zero]; exact HSN.out _ (cstep_sep sep _ _ _ (eq_of_int _ _ HSP.out)), hown2, hB⟩
              case measure => simp [intOf]; omega
          · have hd3 : ((s[k].toNat : Int) == (sep.toNat : Int)) = false := by rw [beq_eq_false_iff_ne]; exact hsep
            have HSP : Hid ((s[k].toNat : Int) ≠ (sep.toNat : Int)) := hsep
            clear hsep
            go_wp2_with fail
            go_roundw
            case rel => exact ⟨k + 1, a, ps, false, false, by omega, by omega, by omega, by go_num, rfl, rfl, fun _ => rfl, by rw [seg_snoc s a k hak hlt]; exact HSN.out _ (cstep_else sep _ _ _ _ (fun h => ne_of_int _ _ HSP.out h.1) (ne_of_int _ 34 H34.out) (fun h => by cases h.2)), hown, hw⟩
            case measure => simp [intOf]; omega
        · by_cases hq92 : (s[k].toNat : Int) = 92
          · have hd1 : ((s[k].toNat : Int) == 92) = true := by simp [hq92]
            have H92 : Hid ((s[k].toNat : Int) = 92) := hq92
            clear hq92
            have HN : Hid (∃ cn', (k + 2 ≤ s.size → cn' = false) ∧ cutS sep (s.data.toList.take (k + 2)) = ⟨ps, (s.data.toList.drop a).take (k + 2 - a), true, cn'⟩) := by
              have h1 := HSN.out _ (cstep_back sep _ _ _ (eq_of_int _ 92 H92.out))
              rw [← seg_snoc s a k hak hlt] at h1
              by_cases h2 : k + 1 < s.size
              · refine ⟨false, fun _ => rfl, ?_⟩
                rw [take_snoc s (k + 1) h2, cutS_snoc, h1, cstep_took, seg_snoc s a (k + 1) (by omega) h2]
              · refine ⟨true, fun h => absurd h (by omega), ?_⟩
                have e1 : s.data.toList.take (k + 2) = s.data.toList.take (k + 1) := by
                  rw [List.take_of_length_le (by rw [size_list]; omega), List.take_of_length_le (by rw [size_list]; omega)]
                have e2 : (s.data.toList.drop a).take (k + 2 - a) = (s.data.toList.drop a).take (k + 1 - a) := by
                  rw [List.take_of_length_le (by rw [List.length_drop, size_list]; omega), List.take_of_length_le (by rw [List.length_drop, size_list]; omega)]
                rw [e1, e2, h1]
            go_wp2_with fail
            go_roundw
            case rel =>
              obtain ⟨cn', h1, h2⟩ := HN.out
              exact ⟨k + 2, a, ps, true, cn', by omega, by omega, by omega, by go_num, rfl, rfl, h1, h2, hown, hw⟩
            case measure => simp [intOf]; omega
          · have hd1 : ((s[k].toNat : Int) == 92) = false := by rw [beq_eq_false_iff_ne]; exact hq92
            have H92 : Hid ((s[k].toNat : Int) ≠ 92) := hq92
            clear hq92
            by_cases hsep : (s[k].toNat : Int) = (sep.toNat : Int)
            · have hd3 : ((s[k].toNat : Int) == (sep.toNat : Int)) = true := by simp [hsep]
              clear hsep
              go_wp2_with fail
              go_roundw
              case rel => exact ⟨k + 1, a, ps, true, false, by omega, by omega, by omega, by go_num, rfl, rfl, fun _ => rfl, by rw [seg_snoc s a k hak hlt]; exact HSN.out _ (cstep_else sep _ _ _ _ (fun h => by cases h.2) (ne_of_int _ 34 H34.out) (fun h => ne_of_int _ 92 H92.out h.1)), hown, hw⟩
              case measure => simp [intOf]; omega
            · have hd3 : ((s[k].toNat : Int) == (sep.toNat : Int)) = false := by rw [beq_eq_false_iff_ne]; exact hsep
              clear hsep
              go_wp2_with fail
              go_roundw
              case rel => exact ⟨k + 1, a, ps, true, false, by omega, by omega, by omega, by go_num, rfl, rfl, fun _ => rfl, by rw [seg_snoc s a k hak hlt]; exact HSN.out _ (cstep_else sep _ _ _ _ (fun h => by cases h.2) (ne_of_int _ 34 H34.out) (fun h => ne_of_int _ 92 H92.out h.1)), hown, hw⟩
              case measure => simp [intOf]; omega
    · have HE : Hid (cutS sep s.data.toList = ⟨ps, (s.data.toList.drop a).take (s.size - a), q, cn⟩) := by
        show cutS sep s.data.toList = _
        have h := HC.out
        have e2 : (s.data.toList.drop a).take (k - a) = (s.data.toList.drop a).take (s.size - a) := by
          rw [List.take_of_length_le (by rw [List.length_drop, size_list]; omega), List.take_of_length_le (by rw [List.length_drop, size_list]; omega)]
        rw [List.take_of_length_le (by rw [size_list]; omega), e2] at h
        exact h
      clear hcn
      go_wp2_with (at_builtin; refine wpList_append_own _ rfl _ _ 47 rfl w.heap.size 9 i0 (.string ⟨#[]⟩) 1 16 Tryd.underlying47 hi hz0 hz1 hz2 rfl (by decide) _ _ _ rfl (hown.alloc _) ⟨wr.heap.size, 0, none⟩ 1 1 [.string (s.extract a s.size)] rfl rfl ?d1 ?d2 ?d3 ?d4 ?d5 ?_)
      case d1 => exact one_cell _ _ _
      case d2 => intro u hu; simp at hu; subst hu; rfl
      case d3 => unfold maxLen; omega
      case d4 => omega
      case d5 => simp; omega
      · intro v' w1 hown' hgrow _
        have hB : Below w.heap.size w w1 := (hw.alloc (by omega) _).grown hgrow (by simp; omega) (fun b hb => ((hown.alloc (.cells #[.string (s.extract a s.size)] 9)).lt b hb).1)
        have hown2 : w1.ownsRow w.heap.size 9 1 v' (pieces sep s.data.toList).length (strs (pieces sep s.data.toList)) := by
          unfold pieces
          rw [HE.out, ← strs_snoc, List.length_append, ← extract_seg]; exact hown'
        have HEN : Hid (ends sep s.data.toList = !q) := by show _ = _; unfold ends; rw [HE.out]
        clear hown' hgrow hown hw
        go_wp2_with fail
        go_ret2
        exact ⟨v', by rw [HEN.out]; rfl, hown2, hB⟩
end Go.Proofs.YtoccjnbodoiibaaDoor

/-
  Small laws on rows of memory that a call made itself; no program is named here.
-/
namespace Go.Proofs.YtoccjnbodoiibaaDoor
open Go.RowKit

theorem own_nil {w : World} {B : Nat} {e : TypeId} {v : Value} {xs : List Value} (h : w.ownsRow B e 1 v 0 xs) : xs = [] := by
  have := h.1
  simpa using this

theorem own_cell {w : World} {B : Nat} {v : Value} {n : Nat} {ps : List (List UInt8)} (h : w.ownsRow B 9 1 v n (strs ps)) : n = ps.length := by
  have := h.1
  rw [strs_length] at this
  omega

theorem own_slice {w : World} {B : Nat} {e : TypeId} {v : Value} {n : Nat} {xs : List Value} (h : w.ownsRow B e 1 v n xs) : ∃ ad cap, v = .slice ad n cap ∧ cap ≤ maxLen ∧ n ≤ cap ∧ (0 < n → ∃ g, ad = some ⟨g, 0, none⟩ ∧ B ≤ g ∧ g < w.heap.size ∧ ∀ j, j < n → w.cell? ⟨g, j, none⟩ = xs[j]?) := by
  rcases h.2 with ⟨rfl, rfl⟩ | ⟨g, cap, cur, hv, hb, hg, hnc, hcm, _, _⟩
  · exact ⟨none, 0, rfl, by unfold maxLen; omega, Nat.le_refl _, fun h => absurd h (by omega)⟩
  · refine ⟨some ⟨g, 0, none⟩, cap, hv, hcm, hnc, fun _ => ⟨g, rfl, hb, (Array.getElem?_eq_some_iff.1 hg).1, fun j hj => ?_⟩⟩
    subst hv
    exact h.cellAt j (by omega)

theorem own_below2 {w w1 : World} {B : Nat} {e : TypeId} {v : Value} {n : Nat} {xs : List Value} (h : w.ownsRow B e 1 v n xs) (hb : Below w.heap.size w w1) : w1.ownsRow B e 1 v n xs := by
  refine ⟨h.1, ?_⟩
  rcases h.2 with h0 | ⟨g, cap, cur, hv, hB, hg, h3⟩
  · exact .inl h0
  · exact .inr ⟨g, cap, cur, hv, hB, (hb.block g (Array.getElem?_eq_some_iff.1 hg).1).trans hg, h3⟩
theorem ownsRow_le' {w : World} {B B' : Nat} {e : TypeId} {v : Value} {n : Nat} {xs : List Value} (h : w.ownsRow B e 1 v n xs) (hb : B' ≤ B) : w.ownsRow B' e 1 v n xs := by
  refine ⟨h.1, ?_⟩
  rcases h.2 with h0 | ⟨g, cap, cur, hv, hB, h3⟩
  · exact .inl h0
  · exact .inr ⟨g, cap, cur, hv, Nat.le_trans hb hB, h3⟩
end Go.Proofs.YtoccjnbodoiibaaDoor

/-
  What Split of package token computes; the text is no longer than Go allows.
-/
namespace Go.Proofs.YtoccjnbodoiibaaDoor
open Go.RowKit

def kept (P : List (List UInt8)) : List (List UInt8) := (P.map trimL).filter (fun p => !p.isEmpty)
def splitS (l : List UInt8) : List (List UInt8) × Int :=
  if 1000 < l.length then ([], 2) else if ends 44 l = false then ([], 3) else if 20 < (kept (pieces 44 l)).length then ([], 2) else (kept (pieces 44 l), 0)

theorem kept_snoc (P : List (List UInt8)) (p : List UInt8) : kept (P ++ [p]) = if (trimL p).isEmpty = true then kept P else kept P ++ [trimL p] := by
  unfold kept
  rw [List.map_append, List.filter_append]
  cases h : (trimL p).isEmpty <;> simp [h]
theorem kept_len (P : List (List UInt8)) : (kept P).length ≤ P.length := by
  unfold kept
  have := List.length_filter_le (fun p : List UInt8 => !p.isEmpty) (P.map trimL)
  simpa using this
theorem take_one (P : List (List UInt8)) (k : Nat) (h : k < P.length) : P.take (k + 1) = P.take k ++ [P[k]] := List.take_succ_eq_append_getElem h

set_option maxHeartbeats 4000000 in
set_option maxRecDepth 100000 in
theorem split_any (s : ByteArray) (w : World) :
    Calls Tryd.prog 20 #[.string s] w fun e w' => ∃ v, e = .returned (.tuple #[v, .int .i64 (splitS s.data.toList).2]) ∧
      w'.ownsRow w.heap.size 9 1 v (splitS s.data.toList).1.length (strs (splitS s.data.toList).1) ∧ Below w.heap.size w w' := by
  obtain ⟨i0, hi, hz0, hz1, hz2⟩ := info_parts info9
  by_cases h1 : 1000 < (s.size : Int)
  · have HL : Hid (splitS s.data.toList = ([], 2)) := by show _ = _; unfold splitS; rw [if_pos (by rw [size_list]; omega)]
    go_enter Tryd.func20, Tryd.ntmps20
    go_wp2_with fail
    go_ret2
    exact ⟨.slice none 0 0, by rw [HL.out]; rfl, by rw [HL.out]; exact World.ownsRow_nil _ _ _ _, Below.refl _ _⟩
  · have hs : s.size ≤ 1000 := by omega
    have HL : Hid (¬ 1000 < s.data.toList.length) := by show ¬ _; rw [size_list]; omega
    clear h1
    cases he : ends 44 s.data.toList
    · have HE : Hid (ends 44 s.data.toList = false) := he
      have HS : Hid (splitS s.data.toList = ([], 3)) := by show _ = _; unfold splitS; rw [if_neg HL.out, if_pos he]
      clear he
      go_enter Tryd.func20, Tryd.ntmps20
      go_wp2_with fail
      refine (cut_any s 44 _ hs (by decide)).mono ?_
      rintro e w1 ⟨v, rfl, hown, hb⟩
      rw [HE.out]
      go_wp2_with fail
      go_ret2
      exact ⟨.slice none 0 0, by rw [HS.out]; rfl, by rw [HS.out]; exact World.ownsRow_nil _ _ _ _, hb⟩
    · have HE : Hid (ends 44 s.data.toList = true) := he
      have HS : Hid (splitS s.data.toList = if 20 < (kept (pieces 44 s.data.toList)).length then ([], 2) else (kept (pieces 44 s.data.toList), 0)) := by
        show _ = _; unfold splitS; rw [if_neg HL.out, if_neg (by rw [he]; simp)]
      clear he
      obtain ⟨P, hP⟩ : ∃ P, P = pieces 44 s.data.toList := ⟨_, rfl⟩
      have HP : Hid (P = pieces 44 s.data.toList) := hP
      have hPl : P.length ≤ 1001 := by
        rw [hP]; unfold pieces
        have := cutS_len 44 s.data.toList
        rw [size_list] at this
        simp; omega
      clear hP
      go_enter Tryd.func20, Tryd.ntmps20
      go_wp2_with fail
      refine (cut_any s 44 _ hs (by decide)).mono ?_
      rintro e w1 ⟨v, rfl, hown, hb⟩
      rw [HE.out]
      rw [← HP.out] at hown
      obtain ⟨ad, cap, hv, hcm, hnc, hcells⟩ := own_slice hown
      subst hv
      unfold maxLen at hcm
      have HCL : Hid (0 < P.length → ∃ g, ad = some ⟨g, 0, none⟩ ∧ w.heap.size ≤ g ∧ g < w1.heap.size ∧ ∀ j, j < P.length → w1.cell? ⟨g, j, none⟩ = (strs P)[j]?) := hcells
      have hbs := hb.size
      clear hcells hown
      go_wp2_with fail
      go_loopw [6, 22] (fun v i wr => ∃ k : Nat, k ≤ P.length ∧ i = .int .i64 k ∧ wr.ownsRow w1.heap.size 9 1 v (kept (P.take k)).length (strs (kept (P.take k))) ∧ Below w1.heap.size w1 wr) (fun _ i _ => P.length - (intOf i).toNat)
      case atStart => exact ⟨0, by omega, rfl, World.ownsRow_nil _ _ _ _, Below.refl _ _⟩
      case round =>
        obtain ⟨k, hk, rfl, hown, hw⟩ := hrel
        have hsz := hw.size
        have hkl : (kept (P.take k)).length ≤ 1001 := by
          have h1 := kept_len (P.take k)
          have h2 := List.length_take_le k P
          omega
        by_cases hlt : k < P.length
        · obtain ⟨g, rfl, hgB, hgs, hce⟩ := HCL.out (by omega)
          have hcell : wr.cell? ⟨g, k, none⟩ = some (.string ⟨(P[k]).toArray⟩) := by
            rw [hw.cell (p := ⟨g, k, none⟩) hgs, hce k hlt]
            exact strs_get P k hlt
          obtain ⟨u, hu⟩ : ∃ u : ByteArray, u = ⟨(P[k]).toArray⟩ := ⟨_, rfl⟩
          rw [← hu] at hcell
          have hus : u.size ≤ 1000 := by
            rw [hu, ← size_list]
            have h2 := pieces_len 44 s.data.toList P[k] (by rw [← HP.out]; exact List.getElem_mem hlt)
            rw [size_list] at h2
            show (P[k]).length ≤ 1000
            omega
          obtain ⟨u', hu'⟩ : ∃ u' : ByteArray, u' = ⟨(trimL P[k]).toArray⟩ := ⟨_, rfl⟩
          have HU : Hid (u'.data.toList = trimL u.data.toList) := by show _ = _; rw [hu, hu']
          have HU' : Hid (u' = ⟨(trimL P[k]).toArray⟩) := hu'
          have hus' : u'.size ≤ 1000 := by
            rw [← size_list, HU.out]
            have := trimL_len u.data.toList
            rw [size_list] at this
            omega
          have HKS : Hid (kept (P.take (k + 1)) = if (trimL P[k]).isEmpty = true then kept (P.take k) else kept (P.take k) ++ [trimL P[k]]) := by
            show _ = _; rw [take_one P k hlt, kept_snoc]
          clear hce hu hu'
          cases hem : u'.toList.isEmpty
          · have HEM : Hid ((trimL P[k]).isEmpty = false) := by
              show _ = _
              rw [ByteArray.toList_eq, HU'.out] at hem
              exact hem
            go_wp2_with fail
            refine (trim_at _ u' HU.out _ (by omega)).mono ?_
            rintro e w2 ⟨rfl, hb2⟩
            have hown2 := own_below2 hown hb2
            have hw2 := hw.trans (hb2.mono hw.size)
            have hsz2 := hw2.size
            clear hown hw hb2 hcell
            go_wp2_with fail
            refine (clone_at _ _ (by omega)).mono ?_
            rintro e w3 ⟨rfl, hb3⟩
            have hown3 := own_below2 hown2 hb3
            have hw3 := hw2.trans (hb3.mono hw2.size)
            have hsz3 := hw3.size
            clear hown2 hw2 hb3
            go_wp2_with (at_builtin; refine wpList_append_own _ rfl _ _ 47 rfl w1.heap.size 9 i0 (.string ⟨#[]⟩) 1 16 Tryd.underlying47 hi hz0 hz1 hz2 rfl (by decide) _ _ _ rfl (hown3.alloc _) ⟨w3.heap.size, 0, none⟩ 1 1 [.string u'] rfl rfl ?c1 ?c2 ?c3 ?c4 ?c5 ?_)
            case c1 => exact one_cell _ _ _
            case c2 => intro x hx; simp at hx; subst hx; rfl
            case c3 => unfold maxLen; omega
            case c4 => omega
            case c5 => simp; omega
            · intro v' w4 hown' hgrow _
              have hB : Below w1.heap.size w1 w4 := (hw3.alloc (by omega) _).grown hgrow (by simp; omega) (fun b hb => ((hown3.alloc (.cells #[.string u'] 9)).lt b hb).1)
              have hown4 : w4.ownsRow w1.heap.size 9 1 v' (kept (P.take (k + 1))).length (strs (kept (P.take (k + 1)))) := by
                rw [HKS.out, HEM.out]
                simp only [Bool.false_eq_true, if_false]
                rw [← strs_snoc, List.length_append, ← HU'.out]; exact hown'
              clear hown' hgrow hown3 hw3
              go_wp2_with fail
              go_roundw
              case rel => exact ⟨k + 1, by omega, by go_num, hown4, hB⟩
              case measure => simp [intOf]; omega
          · have HEM : Hid ((trimL P[k]).isEmpty = true) := by
              show _ = _
              rw [ByteArray.toList_eq, HU'.out] at hem
              exact hem
            go_wp2_with fail
            refine (trim_at _ u' HU.out _ (by omega)).mono ?_
            rintro e w2 ⟨rfl, hb2⟩
            have hown2 := own_below2 hown hb2
            have hw2 := hw.trans (hb2.mono hw.size)
            clear hown hw hb2 hcell
            go_wp2_with fail
            go_roundw
            case rel => exact ⟨k + 1, by omega, by go_num, by rw [HKS.out, if_pos HEM.out]; exact hown2, hw2⟩
            case measure => simp [intOf]; omega
        · obtain rfl : k = P.length := by omega
          rw [List.take_length] at hown hkl
          obtain ⟨ad2, cap2, hv2, hcm2, hnc2, _⟩ := own_slice hown
          subst hv2
          unfold maxLen at hcm2
          by_cases h20 : 20 < ((kept P).length : Int)
          · have HR : Hid (splitS s.data.toList = ([], 2)) := by show _ = _; rw [HS.out, if_pos (by rw [← HP.out]; omega)]
            go_wp2_with fail
            go_ret2
            exact ⟨.slice none 0 0, by rw [HR.out]; rfl, by rw [HR.out]; exact World.ownsRow_nil _ _ _ _, hb.trans (hw.mono hbs)⟩
          · have HR : Hid (splitS s.data.toList = (kept P, 0)) := by show _ = _; rw [HS.out, if_neg (by rw [← HP.out]; omega), ← HP.out]
            go_wp2_with fail
            go_ret2
            exact ⟨_, by rw [HR.out]; rfl, by rw [HR.out]; exact ownsRow_le' hown hbs, hb.trans (hw.mono hbs)⟩
end Go.Proofs.YtoccjnbodoiibaaDoor

/-
  Directives in plain lists: what one is checked for, how they are printed and read; no program is named here.
-/
namespace Go.Proofs.YtoccjnbodoiibaaDoor
open Go.RowKit

/-- A name, whether there is an argument, and the argument. -/
abbrev Dv := List UInt8 × Bool × List UInt8
def okNm (n : List UInt8) : Bool := token n && lower n == n
def prArg (a : List UInt8) : List UInt8 × Int := if token a = true then (a, 0) else qt a
def chkD (d : Dv) : Int := if okNm d.1 = true then (if d.2.1 = true then (prArg d.2.2).2 else if d.2.2.isEmpty = true then 0 else 3) else 3
def prD (d : Dv) : List UInt8 := d.1 ++ (if d.2.1 = true then 61 :: (prArg d.2.2).1 else [])
def badD : List Dv → Int
  | [] => 0
  | d :: ds => if chkD d = 0 then badD ds else chkD d
def sepD : List Dv → List UInt8
  | [] => []
  | d :: ds => prD d ++ ds.flatMap (fun x => 44 :: 32 :: prD x)
/-- What Print answers. -/
def ctP (ds : List Dv) : List UInt8 × Int := if badD ds = 0 then (if 20 < ds.length ∨ 1000 < (sepD ds).length then ([], 2) else (sepD ds, 0)) else ([], badD ds)

theorem badD_app (a b : List Dv) (h : badD a = 0) : badD (a ++ b) = badD b := by
  induction a with
  | nil => rfl
  | cons x a ih =>
    unfold badD at h
    split at h
    · rename_i hx
      rw [List.cons_append]
      show (if chkD x = 0 then badD (a ++ b) else chkD x) = _
      rw [if_pos hx]; exact ih h
    · rename_i hx; exact absurd h hx
theorem badD_one (x : Dv) : badD [x] = chkD x := by
  show (if chkD x = 0 then badD [] else chkD x) = chkD x
  split
  · rename_i h; rw [h]; rfl
  · rfl
theorem badD_take (ls : List Dv) (k : Nat) (h : k < ls.length) (h0 : badD (ls.take k) = 0) (h1 : chkD ls[k] = 0) : badD (ls.take (k + 1)) = 0 := by
  rw [List.take_succ_eq_append_getElem h, badD_app _ _ h0, badD_one, h1]
theorem badD_dead (ls : List Dv) (k : Nat) (h : k < ls.length) (h0 : badD (ls.take k) = 0) (h1 : chkD ls[k] ≠ 0) : badD ls = chkD ls[k] := by
  have e : ls = ls.take k ++ ls[k] :: ls.drop (k + 1) := by rw [← List.drop_eq_getElem_cons h, List.take_append_drop]
  have e2 : badD (ls.take k ++ ls[k] :: ls.drop (k + 1)) = chkD ls[k] := by
    rw [badD_app _ _ h0]
    show (if chkD ls[k] = 0 then badD (ls.drop (k + 1)) else chkD ls[k]) = _
    rw [if_neg h1]
  rw [← e] at e2
  exact e2
theorem badD_all (ls : List Dv) (h : badD ls = 0) : ∀ x ∈ ls, chkD x = 0 := by
  induction ls with
  | nil => intro x hx; cases hx
  | cons a ls ih =>
    unfold badD at h
    split at h
    · rename_i ha
      intro x hx
      rcases List.mem_cons.1 hx with rfl | hx
      · exact ha
      · exact ih h x hx
    · rename_i ha; exact absurd h ha
theorem badD_of (ls : List Dv) (h : ∀ x ∈ ls, chkD x = 0) : badD ls = 0 := by
  induction ls with
  | nil => rfl
  | cons a ls ih =>
    show (if chkD a = 0 then badD ls else chkD a) = 0
    rw [if_pos (h a (List.mem_cons_self ..))]
    exact ih fun x hx => h x (List.mem_cons_of_mem _ hx)
theorem sepD_snoc (ds : List Dv) (d : Dv) : sepD (ds ++ [d]) = sepD ds ++ (if ds.isEmpty = true then [] else [44, 32]) ++ prD d := by
  cases ds with
  | nil => simp [sepD]
  | cons x ds => simp [sepD]
theorem sepD_take (ds : List Dv) (k : Nat) (h : k < ds.length) : sepD (ds.take (k + 1)) = sepD (ds.take k) ++ (if k = 0 then [] else [44, 32]) ++ prD ds[k] := by
  rw [List.take_succ_eq_append_getElem h, sepD_snoc]
  cases k with
  | zero => rfl
  | succ k =>
    have hne : (ds.take (k + 1)).isEmpty = false := by
      cases ds with
      | nil => simp at h
      | cons a ds => rfl
    rw [hne]; simp

/-- Reading. -/
def paD (t : List UInt8) : Option Dv :=
  if token (Lib.cut t [61]).1 = true then
    (if (Lib.cut t [61]).2.2 = true then (rv (Lib.cut t [61]).2.1).map (fun v => (lower (Lib.cut t [61]).1, true, v)) else some (lower (Lib.cut t [61]).1, false, []))
  else none
def pdstep (acc : Option (List Dv)) (p : List UInt8) : Option (List Dv) :=
  match acc with
  | none => none
  | some ds => match paD p with | some x => some (ds ++ [x]) | none => none
def paDs (P : List (List UInt8)) : Option (List Dv) := P.foldl pdstep (some [])
/-- What Parse answers. -/
def ctQ (s : List UInt8) : List Dv × Int := if (splitS s).2 = 0 then (match paDs (splitS s).1 with | none => ([], 3) | some ds => (ds, 0)) else ([], (splitS s).2)
theorem paDs_snoc (P : List (List UInt8)) (p : List UInt8) : paDs (P ++ [p]) = pdstep (paDs P) p := by simp [paDs]
theorem pdstep_none (P : List (List UInt8)) : P.foldl pdstep none = none := by
  induction P with
  | nil => rfl
  | cons a P ih => rw [List.foldl_cons]; exact ih
theorem paDs_take (P : List (List UInt8)) (k : Nat) (h : k < P.length) (ds : List Dv) (h0 : paDs (P.take k) = some ds) (x : Dv) (h1 : paD P[k] = some x) : paDs (P.take (k + 1)) = some (ds ++ [x]) := by
  rw [List.take_succ_eq_append_getElem h, paDs_snoc, h0]
  simp [pdstep, h1]
theorem paDs_dead (P : List (List UInt8)) (k : Nat) (h : k < P.length) (h1 : paD P[k] = none) : paDs P = none := by
  have e : P = P.take k ++ P[k] :: P.drop (k + 1) := by rw [← List.drop_eq_getElem_cons h, List.take_append_drop]
  rw [e]
  unfold paDs
  rw [List.foldl_append, List.foldl_cons]
  have : ∀ acc : Option (List Dv), pdstep acc P[k] = none := by
    intro acc
    cases acc with
    | none => rfl
    | some a => simp [pdstep, h1]
  rw [this, pdstep_none]
theorem paDs_all (P : List (List UInt8)) : ∀ ds, paDs P = some ds → ds.length = P.length ∧ ∀ x ∈ ds, ∃ p ∈ P, paD p = some x := by
  have gen : ∀ (P : List (List UInt8)) (a ds : List Dv), P.foldl pdstep (some a) = some ds → ∃ r, ds = a ++ r ∧ r.length = P.length ∧ ∀ x ∈ r, ∃ p ∈ P, paD p = some x := by
    intro P
    induction P with
    | nil => intro a ds h; simp at h; exact ⟨[], by simp [h], rfl, fun x hx => by cases hx⟩
    | cons p P ih =>
      intro a ds h
      rw [List.foldl_cons] at h
      cases hp : paD p with
      | none =>
        have : pdstep (some a) p = none := by simp [pdstep, hp]
        rw [this, pdstep_none] at h; cases h
      | some x =>
        have : pdstep (some a) p = some (a ++ [x]) := by simp [pdstep, hp]
        rw [this] at h
        obtain ⟨r, hr, hl, hall⟩ := ih _ _ h
        refine ⟨x :: r, by rw [hr]; simp, by simp [hl], ?_⟩
        intro y hy
        rcases List.mem_cons.1 hy with rfl | hy
        · exact ⟨p, List.mem_cons_self .., hp⟩
        · obtain ⟨q, hq, hq2⟩ := hall y hy
          exact ⟨q, List.mem_cons_of_mem _ hq, hq2⟩
  intro ds h
  obtain ⟨r, hr, hl, hall⟩ := gen P [] ds h
  simp only [List.nil_append] at hr
  subst hr
  exact ⟨hl, hall⟩
theorem paDs_of (ds : List Dv) (h : ∀ x ∈ ds, paD (prD x) = some x) : paDs (ds.map prD) = some ds := by
  have gen : ∀ (ds a : List Dv), (∀ x ∈ ds, paD (prD x) = some x) → (ds.map prD).foldl pdstep (some a) = some (a ++ ds) := by
    intro ds
    induction ds with
    | nil => intro a _; simp
    | cons x ds ih =>
      intro a h
      rw [List.map_cons, List.foldl_cons]
      have : pdstep (some a) (prD x) = some (a ++ [x]) := by simp [pdstep, h x (by simp)]
      rw [this, ih _ (fun y hy => h y (by simp [hy]))]; simp
  exact gen ds [] h

/-- What was checked can be printed. -/
theorem lowtok (l : List UInt8) : token (lower l) = token l := by
  unfold token lower
  have h1 : ∀ c : UInt8, isTok (low c) = isTok c := fun c => by
    have := byAll (fun c => isTok (low c) == isTok c) (by decide +kernel) c
    exact eq_of_beq this
  rw [List.all_map]
  have : (isTok ∘ low) = isTok := funext h1
  rw [this]
  cases l <;> rfl
theorem chkD_is (d : Dv) (h : chkD d = 0) : token d.1 = true ∧ lower d.1 = d.1 ∧ (d.2.1 = true → PrOk ⟨d.1, d.2.2, (prArg d.2.2).1⟩) ∧ (d.2.1 = false → d.2.2 = []) := by
  unfold chkD at h
  split at h
  · rename_i ho
    unfold okNm at ho
    rw [Bool.and_eq_true] at ho
    refine ⟨ho.1, eq_of_beq ho.2, fun ha => ?_, fun ha => ?_⟩
    · rw [if_pos ha] at h
      refine ⟨ho.1, ?_⟩
      unfold prArg at h ⊢
      split at h
      · rename_i ht
        rw [if_pos ht]
        exact .inl ⟨rfl, ht⟩
      · rename_i ht
        rw [if_neg ht]
        right
        unfold qt at h ⊢
        split at h
        · cases h
        · rename_i hl
          split at h
          · rename_i hp
            rw [if_neg hl, if_pos hp]
            exact ⟨rfl, hp, hl⟩
          · cases h
    · rw [ha] at h
      simp only [Bool.false_eq_true, if_false] at h
      split at h
      · rename_i he; exact List.isEmpty_iff.1 he
      · cases h
  · cases h
theorem prD_closed (d : Dv) (h : chkD d = 0) : closed 44 (prD d) := by
  obtain ⟨h1, _, h3, _⟩ := chkD_is d h
  have hn := tok_run 44 (.inl rfl) _ (token_parts _ h1).2
  unfold prD
  by_cases hb : d.2.1 = true
  · rw [if_pos hb]
    have hq : closed 44 (prArg d.2.2).1 := by
      rcases (h3 hb).2 with ⟨e, ht⟩ | ⟨e, _, _⟩
      · simp only at e; rw [e]; exact tok_run 44 (.inl rfl) _ (token_parts _ ht).2
      · simp only at e; rw [e]; exact closed_quoted 44 (by decide) _
    unfold closed at *
    rw [run_app, hn, Option.bind_some, run_cons, if_neg (by simp)]
    exact hq
  · rw [if_neg hb, List.append_nil]; exact hn
theorem prD_ne (d : Dv) (h : chkD d = 0) : ∃ b r, prD d = b :: r ∧ blank b = false := by
  obtain ⟨h1, _, _, _⟩ := chkD_is d h
  obtain ⟨h1, h2⟩ := token_parts _ h1
  rw [List.all_eq_true] at h2
  unfold prD
  cases hn : d.1 with
  | nil => rw [hn] at h1; simp at h1
  | cons c r => exact ⟨c, _, rfl, (tok_ne _ (h2 c (by rw [hn]; simp))).2.2.2.2.2⟩
theorem prD_trim (d : Dv) (h : chkD d = 0) : trimL (prD d) = prD d := by
  obtain ⟨h1, _, h3, _⟩ := chkD_is d h
  apply trimL_stays
  · intro b hb
    obtain ⟨c, r, e, hc⟩ := prD_ne d h
    rw [e] at hb
    simp at hb; subst hb; exact hc
  · intro b hb
    unfold prD at hb
    by_cases ha : d.2.1 = true
    · rw [if_pos ha] at hb
      obtain ⟨c, hc, hbl⟩ := q_last _ (h3 ha)
      simp only at hc
      rw [List.getLast?_append, List.getLast?_cons, hc] at hb
      simp at hb; subst hb; exact hbl
    · rw [if_neg ha, List.append_nil] at hb
      obtain ⟨_, h2⟩ := token_parts _ h1
      rw [List.all_eq_true] at h2
      exact (tok_ne _ (h2 b (List.mem_of_getLast? hb))).2.2.2.2.2
theorem cut_nm (n : List UInt8) (h : n.all isTok = true) : Lib.cut n [61] = (n, [], false) := by
  apply cut_one_no
  induction n with
  | nil => rfl
  | cons c n ih =>
    rw [List.all_cons, Bool.and_eq_true] at h
    have h1 := (tok_ne c h.1).2.2.2.2.1
    rw [Lib.indexByte, beq_eq_false_iff_ne.2 h1, ih h.2]
    simp
theorem paD_back (d : Dv) (h : chkD d = 0) : paD (prD d) = some d := by
  obtain ⟨h1, h2, h3, h4⟩ := chkD_is d h
  obtain ⟨n, a, v⟩ := d
  simp only at h1 h2 h3 h4
  cases a
  · have hv := h4 rfl
    subst hv
    have e : prD (n, false, []) = n := by simp [prD]
    have hc := cut_nm n (token_parts _ h1).2
    rw [e]
    unfold paD
    rw [hc]
    simp [h1, h2]
  · have e : prD (n, true, v) = n ++ 61 :: (prArg v).1 := by simp [prD]
    have hr := rv_text _ (h3 rfl)
    simp only at hr
    have hc := cut_seg n (prArg v).1 (token_parts _ h1).2
    rw [e]
    unfold paD
    rw [hc]
    simp [h1, h2, hr]

/-- What is printed is split into what was printed of each. -/
theorem sepD_join (d : Dv) (ds : List Dv) : sepD (d :: ds) = Lib.join (prD d :: ds.map (fun x => 32 :: prD x)) [44] := by
  rw [Lib.join_cons]
  unfold sepD Lib.joinTail
  rw [List.map_map]
  congr 1
theorem split_sepD (ds : List Dv) (h : ∀ x ∈ ds, chkD x = 0) (hl : (sepD ds).length ≤ 1000) (h20 : ds.length ≤ 20) : splitS (sepD ds) = (ds.map prD, 0) := by
  cases ds with
  | nil => rfl
  | cons d ds =>
    have hcl : ∀ r ∈ prD d :: ds.map (fun x => 32 :: prD x), closed 44 r := by
      intro r hr
      rcases List.mem_cons.1 hr with rfl | hr
      · exact prD_closed d (h d (by simp))
      · obtain ⟨x, hx, rfl⟩ := List.mem_map.1 hr
        have := prD_closed x (h x (by simp [hx]))
        unfold closed at this ⊢
        rw [run_cons, if_neg (by simp)]
        exact this
    obtain ⟨e1, e2⟩ := pieces_join 44 (prD d) (ds.map (fun x => 32 :: prD x)) hcl
    rw [← sepD_join] at e1 e2
    have hk : kept (pieces 44 (sepD (d :: ds))) = (d :: ds).map prD := by
      rw [e1]
      unfold kept
      have hm : (prD d :: ds.map (fun x => 32 :: prD x)).map trimL = (d :: ds).map prD := by
        rw [List.map_cons, List.map_cons, prD_trim d (h d (by simp)), List.map_map]
        congr 1
        apply List.map_congr_left
        intro x hx
        show trimL (32 :: prD x) = prD x
        rw [trimL_first _ 32 rfl, prD_trim x (h x (by simp [hx]))]
      rw [hm, List.filter_eq_self]
      intro r hr
      obtain ⟨x, hx, rfl⟩ := List.mem_map.1 hr
      obtain ⟨b, q, e, _⟩ := prD_ne x (h x hx)
      rw [e]; rfl
    unfold splitS
    rw [if_neg (by omega), if_neg (by rw [e2]; simp), hk, if_neg (by simp at h20 ⊢; omega)]
/-- What was printed is read as it was. -/
theorem ct_back (ds : List Dv) (s : List UInt8) (h : ctP ds = (s, 0)) : ctQ s = (ds, 0) := by
  unfold ctP at h
  split at h
  · rename_i hb
    split at h
    · cases h
    · rename_i hl
      simp only [Prod.mk.injEq, and_true] at h
      subst h
      have hall := badD_all ds hb
      have hs := split_sepD ds hall (by omega) (by omega)
      unfold ctQ
      rw [hs]
      simp only [if_true]
      rw [paDs_of ds (fun x hx => paD_back x (hall x hx))]
  · rename_i hb
    simp only [Prod.mk.injEq] at h
    exact absurd h.2 hb
theorem ctP_code (ds : List Dv) (s : List UInt8) (c : Int) (h : ctP ds = (s, c)) (hc : c ≠ 0) : s = [] := by
  unfold ctP at h
  split at h
  · split at h
    · simp only [Prod.mk.injEq] at h; exact h.1.symm
    · simp only [Prod.mk.injEq] at h; exact absurd h.2.symm hc
  · simp only [Prod.mk.injEq] at h; exact h.1.symm
theorem ctP_len (ds : List Dv) (s : List UInt8) (c : Int) (h : ctP ds = (s, c)) : s.length ≤ 1000 := by
  unfold ctP at h
  split at h
  · split at h
    · simp only [Prod.mk.injEq] at h; rw [← h.1]; simp
    · rename_i hl
      simp only [Prod.mk.injEq] at h; rw [← h.1]; omega
  · simp only [Prod.mk.injEq] at h; rw [← h.1]; simp
/-- What was read passes. -/
theorem paD_ok (p : List UInt8) (x : Dv) (h : paD p = some x) : chkD x = 0 := by
  unfold paD at h
  split at h
  · rename_i ht
    have hn : okNm (lower (Lib.cut p [61]).1) = true := by
      unfold okNm
      rw [lowtok, ht, lower_lower]; simp
    split at h
    · cases hr : rv (Lib.cut p [61]).2.1 with
      | none => rw [hr] at h; cases h
      | some v =>
        rw [hr] at h
        simp only [Option.map_some, Option.some.injEq] at h
        subst h
        unfold chkD
        simp only
        rw [if_pos hn]
        simp only [if_true]
        unfold rv at hr
        split at hr
        · rename_i hv
          simp only [Option.some.injEq] at hr
          subst hr
          unfold prArg; rw [if_pos hv]
        · split at hr
          · rename_i hu
            simp only [Option.some.injEq] at hr
            obtain ⟨z1, z2, _⟩ := unq_zero _ v (show unq (Lib.cut p [61]).2.1 = (v, 0) from by rw [← hr, ← hu])
            unfold prArg
            split
            · rfl
            · unfold qt; rw [if_neg z2, if_pos z1]
          · cases hr
    · simp only [Option.some.injEq] at h
      subst h
      unfold chkD
      simp only
      rw [if_pos hn]
      rfl
  · cases h
theorem ctQ_bad (s : List UInt8) (ds : List Dv) (c : Int) (h : ctQ s = (ds, c)) (hc : c ≠ 0) : ds = [] := by
  unfold ctQ at h
  split at h
  · split at h
    · simp only [Prod.mk.injEq] at h; exact h.1.symm
    · simp only [Prod.mk.injEq] at h; exact absurd h.2.symm hc
  · simp only [Prod.mk.injEq] at h; exact h.1.symm
theorem tot_mem (ps : List (List UInt8)) (p : List UInt8) (h : p ∈ ps) : p.length + 1 ≤ tot ps := by
  induction ps with
  | nil => cases h
  | cons a ps ih =>
    have e : tot (a :: ps) = a.length + 1 + tot ps := by simp [tot]
    rcases List.mem_cons.1 h with rfl | h
    · omega
    · have := ih h; omega
theorem split_mem (l p : List UInt8) (h : p ∈ (splitS l).1) : p.length ≤ 1000 := by
  unfold splitS at h
  split at h
  · cases h
  · rename_i hl
    split at h
    · cases h
    · split at h
      · cases h
      · have h1 : p.length + 1 ≤ tot (kept (pieces 44 l)) := tot_mem _ p h
        have h2 := tot_filter (fun p => !p.isEmpty) ((pieces 44 l).map trimL)
        have h3 := tot_trim (pieces 44 l)
        have h4 := pieces_tot 44 l
        unfold kept at h1
        omega
theorem split_len (s : List UInt8) : (splitS s).1.length ≤ 20 := by
  unfold splitS
  split
  · simp
  · split
    · simp
    · split
      · simp
      · show (kept (pieces 44 s)).length ≤ 20; omega
theorem ctQ_len (s : List UInt8) : (ctQ s).1.length ≤ 20 := by
  unfold ctQ
  split
  · have h1 := split_len s
    split
    · simp
    · rename_i ds h
      have := (paDs_all _ _ h).1
      simp only; omega
  · simp
theorem paD_len (p : List UInt8) (x : Dv) (h : paD p = some x) (hp : p.length ≤ 1000) : x.1.length ≤ 1000 ∧ x.2.2.length ≤ 1000 := by
  have hl : (Lib.cut p [61]).1.length ≤ p.length ∧ (Lib.cut p [61]).2.1.length ≤ p.length := by
    unfold Lib.cut
    split
    · simp; omega
    · simp
  have hlow : (lower (Lib.cut p [61]).1).length ≤ 1000 := by unfold lower; rw [List.length_map]; omega
  unfold paD at h
  split at h
  · split at h
    · cases hr : rv (Lib.cut p [61]).2.1 with
      | none => rw [hr] at h; cases h
      | some v =>
        rw [hr] at h
        simp only [Option.map_some, Option.some.injEq] at h
        subst h
        refine ⟨hlow, ?_⟩
        simp only
        unfold rv at hr
        split at hr
        · simp only [Option.some.injEq] at hr
          subst hr; omega
        · split at hr
          · rename_i hu
            simp only [Option.some.injEq] at hr
            obtain ⟨_, z2, _⟩ := unq_zero _ v (show unq (Lib.cut p [61]).2.1 = (v, 0) from by rw [← hr, ← hu])
            omega
          · cases hr
    · simp only [Option.some.injEq] at h
      subst h
      exact ⟨hlow, by simp⟩
  · cases h
theorem ctQ_mem (s : List UInt8) : ∀ x ∈ (ctQ s).1, x.1.length ≤ 1000 ∧ x.2.2.length ≤ 1000 := by
  unfold ctQ
  split
  · split
    · intro x hx; cases hx
    · rename_i ds h
      intro x hx
      obtain ⟨p, hp, hpx⟩ := (paDs_all _ _ h).2 x hx
      exact paD_len p x hpx (split_mem s p hp)
  · intro x hx; cases hx
/-- What was read is printed, or is too long. -/
theorem ct_again (s : List UInt8) (ds : List Dv) (h : ctQ s = (ds, 0)) : ctP ds = ([], 2) ∨ ctP ds = (sepD ds, 0) := by
  have hb : badD ds = 0 := by
    unfold ctQ at h
    split at h
    · split at h
      · cases h
      · rename_i r hr
        simp only [Prod.mk.injEq, and_true] at h
        subst h
        apply badD_of
        intro x hx
        obtain ⟨p, _, hp⟩ := (paDs_all _ _ hr).2 x hx
        exact paD_ok p x hp
    · rename_i hc
      simp only [Prod.mk.injEq] at h
      exact absurd h.2 hc
  unfold ctP
  rw [if_pos hb]
  split
  · exact .inl rfl
  · exact .inr rfl
end Go.Proofs.YtoccjnbodoiibaaDoor

/-
  A slice of directives that can be read, as a plain list; no program is named here.
-/
namespace Go.Proofs.YtoccjnbodoiibaaDoor
open Go.RowKit

def drs (ds : List (List UInt8 × Bool × List UInt8)) : List Value := ds.flatMap fun x => [Value.string ⟨x.1.toArray⟩, Value.bool x.2.1, Value.string ⟨x.2.2.toArray⟩]
theorem drs_snoc (ps : List (List UInt8 × Bool × List UInt8)) (x : List UInt8 × Bool × List UInt8) : drs ps ++ [Value.string ⟨x.1.toArray⟩, Value.bool x.2.1, Value.string ⟨x.2.2.toArray⟩] = drs (ps ++ [x]) := by simp [drs]
theorem drs_app (ps qs : List (List UInt8 × Bool × List UInt8)) : drs (ps ++ qs) = drs ps ++ drs qs := by simp [drs]
theorem drs_length (ps : List (List UInt8 × Bool × List UInt8)) : (drs ps).length = ps.length * 3 := by
  induction ps with
  | nil => rfl
  | cons x ps ih =>
    have e : drs (x :: ps) = [Value.string ⟨x.1.toArray⟩, Value.bool x.2.1, Value.string ⟨x.2.2.toArray⟩] ++ drs ps := by simp [drs]
    rw [e, List.length_append, ih, List.length_cons]; simp; omega
theorem drs_get (ps : List (List UInt8 × Bool × List UInt8)) : ∀ (k : Nat) (h : k < ps.length), (drs ps)[k * 3]? = some (.string ⟨(ps[k]).1.toArray⟩) ∧ (drs ps)[k * 3 + 1]? = some (.bool (ps[k]).2.1) ∧ (drs ps)[k * 3 + 2]? = some (.string ⟨(ps[k]).2.2.toArray⟩) := by
  induction ps with
  | nil => intro k h; simp at h
  | cons x ps ih =>
    intro k h
    have e : drs (x :: ps) = Value.string ⟨x.1.toArray⟩ :: Value.bool x.2.1 :: Value.string ⟨x.2.2.toArray⟩ :: drs ps := by simp [drs]
    rw [e]
    cases k with
    | zero => exact ⟨rfl, rfl, rfl⟩
    | succ k =>
      have := ih k (by simpa using h)
      rw [show (k + 1) * 3 = k * 3 + 1 + 1 + 1 from by omega, show k * 3 + 1 + 1 + 1 + 1 = (k * 3 + 1) + 1 + 1 + 1 from by omega, show k * 3 + 1 + 1 + 1 + 2 = (k * 3 + 2) + 1 + 1 + 1 from by omega]
      simp only [List.getElem?_cons_succ]
      exact this

/-- A slice of directives that can be read. -/
def Dl (w : World) (v : Value) (ls : List (List UInt8 × Bool × List UInt8)) : Prop :=
  ∃ ad cap, v = .slice ad ls.length cap ∧ ls.length ≤ cap ∧ cap ≤ maxLen ∧ (0 < ls.length → ∃ g off, ad = some ⟨g, off, none⟩ ∧ g < w.heap.size ∧
    ∀ (k : Nat) (h : k < ls.length), w.cell? ⟨g, off + k * 3, none⟩ = some (.string ⟨(ls[k]).1.toArray⟩) ∧ w.cell? ⟨g, off + k * 3 + 1, none⟩ = some (.bool (ls[k]).2.1) ∧ w.cell? ⟨g, off + k * 3 + 2, none⟩ = some (.string ⟨(ls[k]).2.2.toArray⟩))
theorem Dl.below {w w' : World} {v : Value} {ls : List (List UInt8 × Bool × List UInt8)} (h : Dl w v ls) (hb : Below w.heap.size w w') : Dl w' v ls := by
  obtain ⟨ad, cap, hv, h1, h2, h3⟩ := h
  refine ⟨ad, cap, hv, h1, h2, fun h0 => ?_⟩
  obtain ⟨g, off, ha, hg, hc⟩ := h3 h0
  refine ⟨g, off, ha, Nat.lt_of_lt_of_le hg hb.size, fun k hk => ?_⟩
  obtain ⟨c1, c2, c3⟩ := hc k hk
  exact ⟨(hb.cell (p := ⟨g, off + k * 3, none⟩) hg).trans c1, (hb.cell (p := ⟨g, off + k * 3 + 1, none⟩) hg).trans c2, (hb.cell (p := ⟨g, off + k * 3 + 2, none⟩) hg).trans c3⟩
theorem Dl.nil (w : World) : Dl w (.slice none 0 0) [] := ⟨none, 0, rfl, Nat.le_refl _, by unfold maxLen; omega, fun h => absurd h (by simp)⟩
/-- A row of directives that the call made itself can be read. -/
theorem Dl.own {w : World} {B : Nat} {e : TypeId} {v : Value} {ls : List (List UInt8 × Bool × List UInt8)} (h : w.ownsRow B e 3 v ls.length (drs ls)) : Dl w v ls := by
  obtain ⟨ad, cap, hv, hcm, hnc, hc⟩ := own_form2 h
  refine ⟨ad, cap, hv, hnc, hcm, fun h0 => ?_⟩
  obtain ⟨g, ha, _, hg, hce⟩ := hc h0
  refine ⟨g, 0, ha, hg, fun k hk => ?_⟩
  obtain ⟨p1, p2, p3⟩ := drs_get ls k hk
  rw [Nat.zero_add, hce _ (by omega), hce _ (by omega), hce _ (by omega)]
  exact ⟨p1, p2, p3⟩
/-- No text of them is longer than so many bytes. -/
def MostD (m : Nat) (ls : List (List UInt8 × Bool × List UInt8)) : Prop := ∀ x ∈ ls, x.1.length ≤ m ∧ x.2.2.length ≤ m
/-- How many values and letters they hold. -/
def bulkD (ls : List (List UInt8 × Bool × List UInt8)) : Nat := (ls.map fun y => y.1.length + y.2.2.length + 4).sum
theorem bulkD_len (ls : List (List UInt8 × Bool × List UInt8)) : ls.length * 4 ≤ bulkD ls := by
  induction ls with
  | nil => simp [bulkD]
  | cons a ls ih => simp only [bulkD, List.map_cons, List.sum_cons, List.length_cons] at ih ⊢; omega
theorem bulkD_mem (ls : List (List UInt8 × Bool × List UInt8)) (x : List UInt8 × Bool × List UInt8) (h : x ∈ ls) : x.1.length + x.2.2.length + 4 ≤ bulkD ls := by
  induction ls with
  | nil => cases h
  | cons a ls ih =>
    simp only [bulkD, List.map_cons, List.sum_cons] at ih ⊢
    rcases List.mem_cons.1 h with rfl | h
    · omega
    · have := ih h; omega
theorem bulkD_most (ls : List (List UInt8 × Bool × List UInt8)) (m : Nat) (h : bulkD ls ≤ m) : MostD m ls := fun x hx => by
  have := bulkD_mem ls x hx
  exact ⟨by omega, by omega⟩
theorem bulkD_app (a b : List (List UInt8 × Bool × List UInt8)) : bulkD (a ++ b) = bulkD a + bulkD b := by simp [bulkD]
end Go.Proofs.YtoccjnbodoiibaaDoor

/-
  A block that stays beside a builder at work, and how long what is printed of directives is; no program is named here.
-/
namespace Go.Proofs.YtoccjnbodoiibaaDoor
open Go.RowKit

theorem kept_cells {w w' : World} {b g : Nat} {t : TypeId} {cs : Array Value} (h : Lib.OthersKept 5 (some b) w w') (hg : w.heap[g]? = some (.cells cs t (0, 0))) (hne : b ≠ g) (ht : t ≠ 5) : w'.heap[g]? = some (.cells cs t (0, 0)) := by
  refine h g _ hg (fun e => hne (Option.some.inj e).symm) ?_
  intro c f e
  injection e with _ e2 _
  exact ht e2
theorem three_cell {w : World} {g : Nat} {t : TypeId} {x y z : Value} (hg : w.heap[g]? = some (.cells #[x, y, z] t (0, 0))) : w.cell? ⟨g, 0, none⟩ = some x ∧ w.cell? ⟨g, 1, none⟩ = some y ∧ w.cell? ⟨g, 2, none⟩ = some z := by
  refine ⟨?_, ?_, ?_⟩ <;> rw [Lib.cell_of_heap hg] <;> rfl
theorem three_set {w : World} {B : Nat} {u0 u1 u2 : Value} (a b c : Value) (h0 : w.cell? ⟨B, 0, none⟩ = some u0) (h1 : w.cell? ⟨B, 1, none⟩ = some u1) (h2 : w.cell? ⟨B, 2, none⟩ = some u2) :
    (((w.setCell ⟨B, 0, none⟩ a).setCell ⟨B, 1, none⟩ b).setCell ⟨B, 2, none⟩ c).cell? ⟨B, 0, none⟩ = some a ∧ (((w.setCell ⟨B, 0, none⟩ a).setCell ⟨B, 1, none⟩ b).setCell ⟨B, 2, none⟩ c).cell? ⟨B, 1, none⟩ = some b ∧ (((w.setCell ⟨B, 0, none⟩ a).setCell ⟨B, 1, none⟩ b).setCell ⟨B, 2, none⟩ c).cell? ⟨B, 2, none⟩ = some c := by
  have e1 : (w.setCell ⟨B, 0, none⟩ a).cell? ⟨B, 0, none⟩ = some a := World.cell?_setCell_same' _ _ _ (by rw [h0]; rfl)
  have e2 : (w.setCell ⟨B, 0, none⟩ a).cell? ⟨B, 1, none⟩ = some u1 := (World.cell?_setCell_other _ _ _ _ (by simp)).trans h1
  have e3 : ((w.setCell ⟨B, 0, none⟩ a).setCell ⟨B, 1, none⟩ b).cell? ⟨B, 2, none⟩ = some u2 := (World.cell?_setCell_other _ _ _ _ (by simp)).trans ((World.cell?_setCell_other _ _ _ _ (by simp)).trans h2)
  exact ⟨(World.cell?_setCell_other _ _ _ _ (by simp)).trans ((World.cell?_setCell_other _ _ _ _ (by simp)).trans e1), (World.cell?_setCell_other _ _ _ _ (by simp)).trans (World.cell?_setCell_same' _ _ _ (by rw [e2]; rfl)), World.cell?_setCell_same' _ _ _ (by rw [e3]; rfl)⟩
theorem three_cells {w W : World} {t : TypeId} {a b c : Value} (h : Below (w.alloc (.cells #[a, b, c] t)).heap.size (w.alloc (.cells #[a, b, c] t)) W) :
    W.cell? ⟨w.heap.size, 0, none⟩ = some a ∧ W.cell? ⟨w.heap.size, 1, none⟩ = some b ∧ W.cell? ⟨w.heap.size, 2, none⟩ = some c ∧ (∀ o, W.frozen? ⟨w.heap.size, o, none⟩ = false) ∧ w.heap.size < W.heap.size ∧ Below w.heap.size w W := by
  refine ⟨new_cell h 0, new_cell h 1, new_cell h 2, fun o => ?_, ?_, below_new h⟩
  · rw [h.frozen (p := ⟨w.heap.size, o, none⟩) (by simp)]
    exact Lib.frozen_of_heap (heap_alloc_new w _) o
  · have := h.size
    simp at this; omega
theorem cut_len3 (l a b : List UInt8) (c : UInt8) (f : Bool) (h : Lib.cut l [c] = (a, b, f)) : a.length ≤ l.length ∧ b.length ≤ l.length := by
  unfold Lib.cut at h
  split at h
  · simp only [Prod.mk.injEq] at h
    obtain ⟨rfl, rfl, _⟩ := h
    simp
    omega
  · simp only [Prod.mk.injEq] at h
    obtain ⟨rfl, rfl, _⟩ := h
    simp
theorem qt_len (l : List UInt8) : (qt l).1.length ≤ 2 * l.length + 2 := by
  unfold qt
  split
  · simp
  · split
    · have := (esc_len l).2
      simp; omega
    · simp
theorem prArg_len (a : List UInt8) : (prArg a).1.length ≤ 2 * a.length + 2 := by
  unfold prArg
  split
  · simp only; omega
  · exact qt_len a
theorem prD_len (d : Dv) : (prD d).length ≤ d.1.length + 2 * d.2.2.length + 3 := by
  unfold prD
  rw [List.length_append]
  split
  · have := prArg_len d.2.2
    rw [List.length_cons]; omega
  · simp only [List.length_nil]; omega
theorem sepD_len (ds : List Dv) : (sepD ds).length ≤ 2 * bulkD ds := by
  have gen : ∀ ds : List Dv, (ds.flatMap (fun x => 44 :: 32 :: prD x)).length ≤ 2 * bulkD ds := by
    intro ds
    induction ds with
    | nil => simp [bulkD]
    | cons d ds ih =>
      have := prD_len d
      rw [List.flatMap_cons, List.length_append, List.length_cons, List.length_cons]
      simp only [bulkD, List.map_cons, List.sum_cons] at ih ⊢
      omega
  cases ds with
  | nil => simp [sepD]
  | cons d ds =>
    have h1 := prD_len d
    have h2 := gen ds
    unfold sepD
    rw [List.length_append]
    simp only [bulkD, List.map_cons, List.sum_cons] at h2 ⊢
    omega
theorem ctQ_bulk (s : List UInt8) : bulkD (ctQ s).1 ≤ 1048576 := by
  have h1 := ctQ_len s
  have h2 := ctQ_mem s
  have gen : ∀ ds : List Dv, (∀ x ∈ ds, x.1.length ≤ 1000 ∧ x.2.2.length ≤ 1000) → bulkD ds ≤ 2004 * ds.length := by
    intro ds
    induction ds with
    | nil => intro _; simp [bulkD]
    | cons d ds ih =>
      intro h
      have := ih fun x hx => h x (List.mem_cons_of_mem _ hx)
      have h3 := h d (List.mem_cons_self ..)
      simp only [bulkD, List.map_cons, List.sum_cons, List.length_cons] at this ⊢
      omega
  have := gen _ h2
  omega
theorem bulkD_take (ds : List Dv) (k : Nat) : bulkD (ds.take k) ≤ bulkD ds := by
  have h := bulkD_app (ds.take k) (ds.drop k)
  rw [List.take_append_drop] at h
  omega
end Go.Proofs.YtoccjnbodoiibaaDoor

/-
  A region that draws its order, whose own operations only read and whose callees leave what lies below as it is: one walk, in a class of worlds; no program is named here.
-/
namespace Go.Proofs.YtoccjnbodoiibaaDoor
open Go.RowKit

theorem region_in {P : Program} {T : Type} (G : T → World) {id : Nat} {Q : Exit → Act → World → Prop} {a : Act} {w : World} {l : List Oper} (hm : P.follows .mixedOrders = true) (hB : Region.lexB .any l.toArray = true)
    (h0 : ∃ x, w.drew = G x) (h : wpQuiet P l.toArray (fun W => ∃ x, W = G x) (fun a' => ∀ W, (∃ x, W = G x) → Q .normal a' W) l a) : (Code.region id l.toArray true).wp P Q a w :=
  wp_region_quiet (C := fun W => ∃ x, W = G x) hm hB h0 (by simpa using h)
/-- The worlds that have all that this one has. -/
theorem below_class (w : World) : ∃ (T : Type) (G : T → World) (x0 : T), w = G x0 ∧ Hid (∀ x, Below (G x0).heap.size (G x0) (G x)) ∧ Hid (∀ x W, Below (G x).heap.size (G x) W → ∃ y, W = G y) ∧ Hid (∀ x, ∃ y, (G x).drew = G y) := by
  refine ⟨{W : World // Below w.heap.size w W}, Subtype.val, ⟨w, Below.refl _ _⟩, rfl, fun x => x.2, fun x W h => ⟨⟨W, x.2.trans (h.mono x.2.size)⟩, rfl⟩, fun x => ⟨⟨x.1.drew, x.2.drew⟩, rfl⟩⟩
end Go.Proofs.YtoccjnbodoiibaaDoor

/-
  What IsToken and inToken compute, each a contract over the program's text; no condition but that a string is no longer than Go allows.
-/
namespace Go.Proofs.YtoccjnbodoiibaaDoor
open Go.RowKit

def signs : List UInt8 := [33, 35, 36, 37, 38, 39, 42, 43, 45, 46, 94, 95, 96, 124, 126]

theorem isTok_a (c : UInt8) (h : 97 ≤ (c.toNat : Int) ∧ (c.toNat : Int) ≤ 122) : isTok c = true := by
  unfold isTok; simp [UInt8.le_iff_toNat_le]; omega
theorem isTok_b (c : UInt8) (h : 65 ≤ (c.toNat : Int) ∧ (c.toNat : Int) ≤ 90) : isTok c = true := by
  unfold isTok; simp [UInt8.le_iff_toNat_le]; omega
theorem isTok_c (c : UInt8) (h : 48 ≤ (c.toNat : Int) ∧ (c.toNat : Int) ≤ 57) : isTok c = true := by
  unfold isTok; simp [UInt8.le_iff_toNat_le]; omega
theorem isTok_d (c : UInt8) (ha : ¬ (97 ≤ (c.toNat : Int) ∧ (c.toNat : Int) ≤ 122)) (hb : ¬ (65 ≤ (c.toNat : Int) ∧ (c.toNat : Int) ≤ 90)) (hc : ¬ (48 ≤ (c.toNat : Int) ∧ (c.toNat : Int) ≤ 57)) :
    isTok c = decide (0 ≤ Lib.indexByte [33, 35, 36, 37, 38, 39, 42, 43, 45, 46, 94, 95, 96, 124, 126] c) := by
  rw [← Lib.contains_iff_indexByte]
  have a : (97 ≤ c && c ≤ 122) = false := by rw [Bool.eq_false_iff]; simp [UInt8.le_iff_toNat_le]; omega
  have b : (65 ≤ c && c ≤ 90) = false := by rw [Bool.eq_false_iff]; simp [UInt8.le_iff_toNat_le]; omega
  have d : (48 ≤ c && c ≤ 57) = false := by rw [Bool.eq_false_iff]; simp [UInt8.le_iff_toNat_le]; omega
  unfold isTok
  rw [a, b, d]; rfl

set_option maxHeartbeats 400000 in
set_option maxRecDepth 100000 in
theorem inToken_any (c : UInt8) (w : World) :
    Calls Tryd.prog 40 #[.int .u8 (c.toNat : Int)] w fun e w' => e = .returned (.bool (isTok c)) ∧ w' = w := by
  have hlt : (c.toNat : Int) < 256 := by have := c.toNat_lt; omega
  have hge : 0 ≤ (c.toNat : Int) := by omega
  rcases (show (c.toNat : Int) < 48 ∨ (48 ≤ (c.toNat : Int) ∧ (c.toNat : Int) ≤ 57) ∨ (58 ≤ (c.toNat : Int) ∧ (c.toNat : Int) ≤ 64) ∨ (65 ≤ (c.toNat : Int) ∧ (c.toNat : Int) ≤ 90) ∨ (91 ≤ (c.toNat : Int) ∧ (c.toNat : Int) ≤ 96) ∨ (97 ≤ (c.toNat : Int) ∧ (c.toNat : Int) ≤ 122) ∨ 123 ≤ (c.toNat : Int) from by omega) with h | ⟨h, h'⟩ | ⟨h, h'⟩ | ⟨h, h'⟩ | ⟨h, h'⟩ | ⟨h, h'⟩ | h
  all_goals first
    | rw [isTok_a c (by omega)]
    | rw [isTok_b c (by omega)]
    | rw [isTok_c c (by omega)]
    | rw [isTok_d c (by omega) (by omega) (by omega)]
  all_goals
    go_enter Tryd.func40, Tryd.ntmps40
    go_wp2_with (go_at_call 30; refine (Tryd.strings_IndexByte _ _ _).mono ?_; rintro e w' ⟨rfl, rfl⟩)
    go_ret
    exact ⟨rfl, rfl⟩

set_option maxHeartbeats 400000 in
set_option maxRecDepth 100000 in
theorem isToken_any (s : ByteArray) (w : World) (hs : s.size ≤ maxLen) :
    Calls Tryd.prog 25 #[.string s] w fun e w' => e = .returned (.bool (token s.data.toList)) ∧ w' = w := by
  unfold maxLen at hs
  go_enter Tryd.func25, Tryd.ntmps25
  go_wp2_with fail
  go_loop [6] (fun i => ∃ k : Nat, k ≤ s.size ∧ i = .int .i64 k ∧ (s.data.toList.take k).all isTok = true) (fun i => s.size - (intOf i).toNat)
  case atStart => exact ⟨0, Nat.zero_le _, rfl, rfl⟩
  case round =>
    obtain ⟨k, hk, rfl, hall⟩ := hrel
    have HA : Hid ((s.data.toList.take k).all isTok = true) := hall
    clear hall
    by_cases hlt : k < s.size
    · cases ht : isTok s[k]
      · have HT : Hid (isTok s[k] = false) := ht
        clear ht
        go_wp2_with fail
        refine (inToken_any _ _).mono ?_
        rintro e w' ⟨rfl, rfl⟩
        rw [HT.out]
        go_wp2_with fail
        go_ret
        refine ⟨ret_bool ?_, rfl⟩
        rw [token, all_false s isTok k hlt HT.out, Bool.and_false]
      · have HT : Hid (isTok s[k] = true) := ht
        clear ht
        go_wp2_with fail
        refine (inToken_any _ _).mono ?_
        rintro e w' ⟨rfl, rfl⟩
        rw [HT.out]
        go_wp2_with fail
        go_round
        case rel => exact ⟨k + 1, by omega, by go_num, by rw [take_snoc s k hlt, List.all_append, HA.out]; simp [HT.out]⟩
        case measure => simp [intOf]; omega
    · obtain rfl : k = s.size := by omega
      go_wp2_with fail
      go_ret
      refine ⟨ret_bool ?_, rfl⟩
      have h := HA.out
      rw [take_all] at h
      rw [token, h, ByteArray.toList_eq, Bool.and_true]
end Go.Proofs.YtoccjnbodoiibaaDoor

/-
  The letters A to Z as a to z, byte by byte; no program is named here.
-/
namespace Go.Proofs.YtoccjnbodoiibaaDoor
open Go.RowKit

theorem low_yes (c : UInt8) (h : 65 ≤ (c.toNat : Int)) (h' : (c.toNat : Int) ≤ 90) : ((low c).toNat : Int) = (c.toNat : Int) + 32 := by
  have e : (65 ≤ c && c ≤ 90) = true := by simp [UInt8.le_iff_toNat_le]; omega
  unfold low
  rw [if_pos e, UInt8.toNat_add]
  have : (32 : UInt8).toNat = 32 := rfl
  omega
theorem low_no (c : UInt8) (h : (c.toNat : Int) < 65 ∨ 90 < (c.toNat : Int)) : low c = c := by
  have e : (65 ≤ c && c ≤ 90) = false := by rw [Bool.eq_false_iff]; simp [UInt8.le_iff_toNat_le]; omega
  unfold low
  rw [e]; rfl

theorem lower_snoc (l : List UInt8) (c : UInt8) : lower (l ++ [c]) = lower l ++ [low c] := by simp [lower]
end Go.Proofs.YtoccjnbodoiibaaDoor

/-
  What Lower of package token computes: the letters A to Z as a to z; the string fits in the memory that Go's limits allow.
-/
namespace Go.Proofs.YtoccjnbodoiibaaDoor
open Go.RowKit

theorem cells_snoc (l : List UInt8) (c : UInt8) (n : Int) (h : n = ((low c).toNat : Int)) : Lib.byteCells (lower l) ++ [Value.int .u8 n] = Lib.byteCells (lower (l ++ [c])) := by
  rw [lower_snoc, Lib.byteCells_append, h]; rfl

set_option maxHeartbeats 1000000 in
set_option maxRecDepth 100000 in
theorem lower_any (s : ByteArray) (w : World) (hs : s.size ≤ 140737488351232) :
    Calls Tryd.prog 26 #[.string s] w fun e w' => e = .returned (.string ⟨(lower s.data.toList).toArray⟩) ∧ Below w.heap.size w w' := by
  go_enter Tryd.func26, Tryd.ntmps26
  go_wp2_with fail
  refine (Tryd.Builder_Grow_fresh w.heap.size w.heap.size s.size _ (Nat.le_refl _) ?hbk ?hBw (by omega)).mono ?_
  case hbk => exact heap_alloc_new _ _
  case hBw => simp
  rintro e w1 ⟨rfl, hb1, hw1⟩
  have hw1' : Below w.heap.size w w1 := ((Below.refl _ w).alloc (Nat.le_refl _) _).trans hw1
  clear hw1
  go_wp2_with fail
  go_loopw [11] (fun i wr => ∃ k : Nat, k ≤ s.size ∧ i = .int .i64 k ∧ Lib.BuilderAt 37 5 w.heap.size w.heap.size (.pointer (some ⟨w.heap.size, 0, none⟩)) (Lib.byteCells (lower (s.data.toList.take k))) wr ∧ Below w.heap.size w wr) (fun i _ => s.size - (intOf i).toNat)
  case atStart => exact ⟨0, Nat.zero_le _, rfl, hb1, hw1'⟩
  case round =>
    obtain ⟨k, hk, rfl, hb, hw⟩ := hrel
    clear hb1 hw1'
    by_cases hlt : k < s.size
    · have hlen : (Lib.byteCells (lower (s.data.toList.take k))).length + 1 ≤ 140737488355328 := by
        rw [Lib.byteCells_length]; simp [lower]; omega
      have hc1 : (s[k].toNat : Int) < 256 := by have := s[k].toNat_lt; omega
      have hsz := hw.size
      rcases (show (s[k].toNat : Int) < 65 ∨ (65 ≤ (s[k].toNat : Int) ∧ (s[k].toNat : Int) ≤ 90) ∨ 91 ≤ (s[k].toNat : Int) from by omega) with h | ⟨h, h'⟩ | h
      · go_wp2_with fail
        refine (Tryd.Builder_WriteByte w.heap.size w.heap.size _ _ _ (.inr hb) hlen hsz).mono ?_
        rintro e w2 ⟨rfl, hb2, hw2⟩
        go_wp2_with fail
        go_roundw
        case rel => exact ⟨k + 1, by omega, by go_num, by rw [take_snoc s k hlt, ← cells_snoc _ _ _ (by rw [low_no _ (by omega)])]; exact hb2, hw.trans hw2⟩
        case measure => simp [intOf]; omega
      · go_wp2_with fail
        refine (Tryd.Builder_WriteByte w.heap.size w.heap.size _ _ _ (.inr hb) hlen hsz).mono ?_
        rintro e w2 ⟨rfl, hb2, hw2⟩
        go_wp2_with fail
        go_roundw
        case rel => exact ⟨k + 1, by omega, by go_num, by rw [take_snoc s k hlt, ← cells_snoc _ _ _ ((low_yes _ h h').symm)]; exact hb2, hw.trans hw2⟩
        case measure => simp [intOf]; omega
      · go_wp2_with fail
        refine (Tryd.Builder_WriteByte w.heap.size w.heap.size _ _ _ (.inr hb) hlen hsz).mono ?_
        rintro e w2 ⟨rfl, hb2, hw2⟩
        go_wp2_with fail
        go_roundw
        case rel => exact ⟨k + 1, by omega, by go_num, by rw [take_snoc s k hlt, ← cells_snoc _ _ _ (by rw [low_no _ (by omega)])]; exact hb2, hw.trans hw2⟩
        case measure => simp [intOf]; omega
    · obtain rfl : k = s.size := by omega
      have hsz := hw.size
      go_wp2_with fail
      refine (Tryd.Builder_String_any w.heap.size w.heap.size _ _ (.inr hb) hsz).mono ?_
      rintro e w2 ⟨rfl, hw2⟩
      go_wp2_with fail
      go_ret
      exact ⟨by rw [take_all]; rfl, hw.trans hw2⟩
end Go.Proofs.YtoccjnbodoiibaaDoor

/-
  The contract of Go's (*strings.Builder).WriteString, which the shelf proves over any program, laid over this seat's translation. No condition but those that the theorem names.
-/
namespace Go.Proofs
def Tryd.lays166_ren : Go.Shelf.Ren := ⟨fun | 166 => 13 | 240 => 28 | 276 => 44 | n => n, fun | 0 => 0 | 3 => 3 | 4 => 4 | 5 => 5 | 9 => 9 | 20 => 20 | 37 => 35 | 70 => 34 | 72 => 37 | 75 => 39 | 80 => 44 | 164 => 67 | n => n, fun | n => n⟩
theorem Tryd.lays166 : Go.Proofs.Lays.n166 Tryd.prog Tryd.lays166_ren := {
  mixed := by kernel_rfl
  f166 := Tryd.func13.trans (congrArg some (by kernel_rfl))
  f240 := Tryd.func28.trans (congrArg some (by kernel_rfl))
  f276 := Tryd.func44.trans (congrArg some (by kernel_rfl))
  t0 := Tryd.underlying0
  a0 := Tryd.isAgg0
  z0 := Tryd.sizeOf0
  v0 := Tryd.zeroValue0
  t3 := Tryd.underlying3
  a3 := Tryd.isAgg3
  z3 := Tryd.sizeOf3
  v3 := Tryd.zeroValue3
  t4 := Tryd.underlying4
  a4 := Tryd.isAgg4
  z4 := Tryd.sizeOf4
  v4 := Tryd.zeroValue4
  t9 := Tryd.underlying9
  a9 := Tryd.isAgg9
  z9 := Tryd.sizeOf9
  v9 := Tryd.zeroValue9
  t20 := Tryd.underlying20
  a20 := Tryd.isAgg20
  z20 := Tryd.sizeOf20
  v20 := Tryd.zeroValue20
  t37 := Tryd.underlying35
  a37 := Tryd.isAgg35
  z37 := Tryd.sizeOf35
  v37 := Tryd.zeroValue35
  t70 := Tryd.underlying34
  a70 := Tryd.isAgg34
  z70 := Tryd.sizeOf34
  v70 := Tryd.zeroValue34
  t72 := Tryd.underlying37
  a72 := Tryd.isAgg37
  z72 := Tryd.sizeOf37
  v72 := Tryd.zeroValue37
  t75 := Tryd.underlying39
  a75 := Tryd.isAgg39
  z75 := Tryd.sizeOf39
  v75 := Tryd.zeroValue39
  t164 := Tryd.underlying67
  a164 := Tryd.isAgg67
  z164 := Tryd.sizeOf67
  v164 := Tryd.zeroValue67 }
theorem Tryd.Builder_Extra_166 : Builder.Extra Tryd.prog Tryd.lays166_ren := {
  sizeBuilder := by kernel_rfl
  liesBuilder := by kernel_rfl
  t5 := Tryd.underlying5
  a5 := Tryd.isAgg5
  z5 := Tryd.sizeOf5
  v5 := Tryd.zeroValue5
  infoByte := by kernel_rfl
  cellsByte := by kernel_rfl
  sizeByte := by kernel_rfl
  neB5 := by decide }
open Go.RowKit in
theorem Tryd.Builder_WriteString (B b : Nat) (bs : List Value) (s : ByteArray) (w : World) (h : Lib.IsBuilder 37 5 B b bs w) (hlen : bs.length + s.size ≤ 140737488355328) (hBw : B ≤ w.heap.size) :
    Calls Tryd.prog 13 #[.pointer (some ⟨b, 0, none⟩), .string s] w fun e w' => e = .returned (.tuple #[.int .i64 s.size, .nilIface]) ∧ (Lib.BuilderAt 37 5 B b (.pointer (some ⟨b, 0, none⟩)) (bs ++ Lib.strCells s) w' ∧ Below B w w') := Any.Builder_WriteString Tryd.lays166 Tryd.Builder_Extra_166 B b bs s w h hlen hBw
open Go.RowKit in
theorem Tryd.Builder_WriteString_k (B b : Nat) (bs : List Value) (s : ByteArray) (w : World) (h : Lib.IsBuilderF 37 5 B b bs w) (hlen : bs.length + s.size ≤ 140737488355328) (hBw : B ≤ w.heap.size) :
    Calls Tryd.prog 13 #[.pointer (some ⟨b, 0, none⟩), .string s] w fun e w' => e = .returned (.tuple #[.int .i64 s.size, .nilIface]) ∧ (Lib.BuilderAtF 37 5 B b (.pointer (some ⟨b, 0, none⟩)) (bs ++ Lib.strCells s) w' ∧ Below B w w' ∧ Lib.OthersKept 5 (some b) w w') := Any.Builder_WriteString_k Tryd.lays166 Tryd.Builder_Extra_166 B b bs s w h hlen hBw
end Go.Proofs

/-
  What printArg, check and writeOne of package control do.
-/
namespace Go.Proofs.YtoccjnbodoiibaaDoor
open Go.RowKit

set_option maxRecDepth 100000 in
theorem karg_at (s t : ByteArray) (c : Int) (h : prArg s.data.toList = (t.data.toList, c)) (w : World) (hs : s.size ≤ maxLen) :
    Calls Tryd.prog 27 #[.string s] w fun e w' => e = .returned (.tuple #[.string t, .int .i64 c]) ∧ Below w.heap.size w w' := by
  have HZ : Hid (s.size ≤ maxLen) := hs
  clear hs
  cases htk : token s.data.toList
  · have HT : Hid (token s.data.toList = false) := htk
    have HQ : Hid (qt s.data.toList = (t.data.toList, c)) := by
      show _ = _
      unfold prArg at h
      rw [htk] at h
      simpa using h
    clear h htk
    go_enter Tryd.func27, Tryd.ntmps27
    go_wp2_with fail
    refine (isToken_any _ _ HZ.out).mono ?_
    rintro e w1 ⟨rfl, rfl⟩
    rw [HT.out]
    go_wp2_with fail
    refine (quote_at s t c HQ.out _).mono ?_
    rintro e w2 ⟨rfl, hb⟩
    go_wp2_with fail
    go_ret2
    exact ⟨rfl, hb⟩
  · have HT : Hid (token s.data.toList = true) := htk
    have hfin : s = t ∧ 0 = c := by
      unfold prArg at h
      rw [htk] at h
      simp only [if_true, Prod.mk.injEq] at h
      refine ⟨?_, h.2⟩
      apply ByteArray.ext; apply Array.ext'; exact h.1
    obtain ⟨rfl, rfl⟩ := hfin
    clear h htk
    go_enter Tryd.func27, Tryd.ntmps27
    go_wp2_with fail
    refine (isToken_any _ _ HZ.out).mono ?_
    rintro e w1 ⟨rfl, rfl⟩
    rw [HT.out]
    go_wp2_with fail
    go_ret2
    exact ⟨rfl, Below.refl _ _⟩
set_option maxHeartbeats 2000000 in
set_option maxRecDepth 100000 in
theorem kcheck_at (n a : ByteArray) (b : Bool) (c : Int) (h : chkD (n.data.toList, b, a.data.toList) = c) (w : World) (hn : n.size ≤ 140737488351232) (ha : a.size ≤ maxLen) :
    Calls Tryd.prog 12 #[.agg #[.string n, .bool b, .string a]] w fun e w' => e = .returned (.int .i64 c) ∧ Below w.heap.size w w' := by
  obtain ⟨L, hL⟩ : ∃ L : ByteArray, L = ⟨(lower n.data.toList).toArray⟩ := ⟨_, rfl⟩
  obtain ⟨tk, htk⟩ : ∃ tk, token n.data.toList = tk := ⟨_, rfl⟩
  obtain ⟨lw, hlw⟩ : ∃ lw, (L.toList == n.toList) = lw := ⟨_, rfl⟩
  obtain ⟨q, d, hq⟩ : ∃ (q : ByteArray) (d : Int), prArg a.data.toList = (q.data.toList, d) := ⟨⟨(prArg a.data.toList).1.toArray⟩, (prArg a.data.toList).2, rfl⟩
  have HZ : Hid (n.size ≤ maxLen) := by show _ ≤ _; unfold maxLen; omega
  have HTK : Hid (∀ W : World, Calls Tryd.prog 25 #[.string n] W fun e w' => e = .returned (.bool tk) ∧ Below W.heap.size W w') := fun W => (isToken_any n W HZ.out).mono fun e w' h => ⟨by rw [h.1, htk], by rw [h.2]; exact Below.refl _ _⟩
  have HLW : Hid (∀ W : World, Calls Tryd.prog 26 #[.string n] W fun e w' => e = .returned (.string L) ∧ Below W.heap.size W w') := fun W => by rw [hL]; exact lower_any n W hn
  have HAR : Hid (∀ W : World, Calls Tryd.prog 27 #[.string a] W fun e w' => e = .returned (.tuple #[.string q, .int .i64 d]) ∧ Below W.heap.size W w') := fun W => karg_at a q d hq W ha
  have hok : okNm n.data.toList = (tk && lw) := by
    unfold okNm
    rw [htk, ← hlw, hL, ByteArray.toList_eq, ByteArray.toList_eq]
  have hc : c = if (tk && lw) = true then (if b = true then d else if a.toList.isEmpty = true then 0 else 3) else 3 := by
    rw [← h]
    unfold chkD
    simp only
    rw [hok, hq, ByteArray.toList_eq]
  obtain ⟨em, hem⟩ : ∃ em, a.toList.isEmpty = em := ⟨_, rfl⟩
  rw [hem] at hc
  have HC : Hid (c = if (tk && lw) = true then (if b = true then d else if em = true then 0 else 3) else 3) := hc
  clear hc hok hq htk hL h HZ
  obtain ⟨T, G, x0, hG, HG1, HG2, HG3⟩ := below_class (w.alloc (.cells #[.string n, .bool b, .string a] 31))
  haveI : Nonempty T := ⟨x0⟩
  have HWK : Hid (w.alloc (.cells #[.string n, .bool b, .string a] 31) = G x0) := hG
  have hall : ∀ x, (G x).cell? ⟨w.heap.size, 0, none⟩ = some (.string n) ∧ (G x).cell? ⟨w.heap.size, 1, none⟩ = some (.bool b) ∧ (G x).cell? ⟨w.heap.size, 2, none⟩ = some (.string a) ∧ Below w.heap.size w (G x) := by
    intro x
    have h1 := HG1.out x
    rw [← hG] at h1
    exact ⟨new_cell h1 0, new_cell h1 1, new_cell h1 2, below_new h1⟩
  have hc0 : ∀ x, (G x).cell? ⟨w.heap.size, 0, none⟩ = some (.string n) := fun x => (hall x).1
  have hc1 : ∀ x, (G x).cell? ⟨w.heap.size, 1, none⟩ = some (.bool b) := fun x => (hall x).2.1
  have hc2 : ∀ x, (G x).cell? ⟨w.heap.size, 2, none⟩ = some (.string a) := fun x => (hall x).2.2.1
  have HBW : Hid (∀ x, Below w.heap.size w (G x)) := fun x => (hall x).2.2.2
  clear hall hG hn ha
  cases tk
  · go_enter Tryd.func12, Tryd.ntmps12
    go_wp2_with fail
    rw [HWK.out]
    refine region_in G (by kernel_rfl) (by kernel_rfl) (HG3.out _) ?_
    repeat (go_big_quiet_step (first | (go_at_call 25; with_reducible exact (HTK.out _).mono fun e W h => ⟨h.1, HG2.out _ W h.2⟩)))
    refine wpQuiet_nil ?_
    rintro _ ⟨x1, rfl⟩
    go_wp2_with fail
    go_ret
    exact ⟨by rw [HC.out]; rfl, HBW.out _⟩
  · cases lw
    · go_enter Tryd.func12, Tryd.ntmps12
      go_wp2_with fail
      rw [HWK.out]
      refine region_in G (by kernel_rfl) (by kernel_rfl) (HG3.out _) ?_
      repeat (go_big_quiet_step (first | (go_at_call 25; with_reducible exact (HTK.out _).mono fun e W h => ⟨h.1, HG2.out _ W h.2⟩) | (go_at_call 26; with_reducible exact (HLW.out _).mono fun e W h => ⟨h.1, HG2.out _ W h.2⟩)))
      refine wpQuiet_nil ?_
      rintro _ ⟨x1, rfl⟩
      go_wp2_with fail
      go_ret
      exact ⟨by rw [HC.out]; rfl, HBW.out _⟩
    · cases b
      · cases em
        all_goals
          go_enter Tryd.func12, Tryd.ntmps12
          go_wp2_with fail
          rw [HWK.out]
          refine region_in G (by kernel_rfl) (by kernel_rfl) (HG3.out _) ?_
          repeat (go_big_quiet_step (first | (go_at_call 25; with_reducible exact (HTK.out _).mono fun e W h => ⟨h.1, HG2.out _ W h.2⟩) | (go_at_call 26; with_reducible exact (HLW.out _).mono fun e W h => ⟨h.1, HG2.out _ W h.2⟩)))
          refine wpQuiet_nil ?_
          rintro _ ⟨x1, rfl⟩
          go_wp2_with fail
          go_ret
          exact ⟨by rw [HC.out]; rfl, HBW.out _⟩
      · go_enter Tryd.func12, Tryd.ntmps12
        go_wp2_with fail
        rw [HWK.out]
        refine region_in G (by kernel_rfl) (by kernel_rfl) (HG3.out _) ?_
        repeat (go_big_quiet_step (first | (go_at_call 25; with_reducible exact (HTK.out _).mono fun e W h => ⟨h.1, HG2.out _ W h.2⟩) | (go_at_call 26; with_reducible exact (HLW.out _).mono fun e W h => ⟨h.1, HG2.out _ W h.2⟩)))
        refine wpQuiet_nil ?_
        rintro _ ⟨x1, rfl⟩
        go_wp2_with fail
        refine (HAR.out _).mono ?_
        rintro e w2 ⟨rfl, hb2⟩
        go_wp2_with fail
        go_ret
        exact ⟨by rw [HC.out]; rfl, (HBW.out _).trans (hb2.mono (HBW.out _).size)⟩
set_option maxHeartbeats 2000000 in
set_option maxRecDepth 100000 in
theorem kwrite_at (B b : Nat) (l : List UInt8) (n a : ByteArray) (f : Bool) (w : World) (h : Lib.IsBuilderF 37 5 B b (Lib.byteCells l) w) (hl : l.length ≤ 100000000) (hn : n.size ≤ 100000000) (ha : a.size ≤ 100000000) (hB : B ≤ w.heap.size) :
    Calls Tryd.prog 14 #[.pointer (some ⟨b, 0, none⟩), .agg #[.string n, .bool f, .string a]] w fun e w' => e = .returned (.tuple #[]) ∧ Lib.IsBuilderF 37 5 B b (Lib.byteCells (l ++ prD (n.data.toList, f, a.data.toList))) w' ∧ Below B w w' := by
  have hbw : b < w.heap.size := by
    rcases h with h | h
    · exact h.lt
    · exact h.lt
  have hp0 : (w.alloc (.cells #[.string n, .bool f, .string a] 31)).heap[w.heap.size]? = some (.cells #[.string n, .bool f, .string a] 31 (0, 0)) := heap_alloc_new _ _
  have HP0 : Hid ((w.alloc (.cells #[.string n, .bool f, .string a] 31)).heap[w.heap.size]? = some (.cells #[.string n, .bool f, .string a] 31 (0, 0))) := hp0
  have HB : Hid (Lib.IsBuilderF 37 5 B b (Lib.byteCells l) w) := h
  have HA0 : Hid (Below B w (w.alloc (.cells #[.string n, .bool f, .string a] 31))) := (Below.refl _ w).alloc hB _
  obtain ⟨q, d, hq⟩ : ∃ (q : ByteArray) (d : Int), prArg a.data.toList = (q.data.toList, d) := ⟨⟨(prArg a.data.toList).1.toArray⟩, (prArg a.data.toList).2, rfl⟩
  have hqs : q.size ≤ 200000002 := by
    have := prArg_len a.data.toList
    rw [hq] at this
    simp only at this
    rw [size_list, size_list] at this
    omega
  have HQ : Hid (prArg a.data.toList = (q.data.toList, d)) := hq
  clear hp0 h hq
  cases f
  · have HE : Hid (l ++ n.data.toList = l ++ prD (n.data.toList, false, a.data.toList)) := by show _ = _; simp [prD]
    go_enter Tryd.func14, Tryd.ntmps14
    go_wp2_with fail
    refine (Tryd.Builder_WriteString_k B b _ n _ (HB.out.alloc _) (by rw [Lib.byteCells_length]; omega) (by simp; omega)).mono ?_
    rintro e w2 ⟨rfl, hb2, hw2, hk2⟩
    have HW2 := HA0.out.trans hw2
    have hp2 := kept_cells hk2 HP0.out (by omega) (by decide)
    obtain ⟨c0, c1, c2⟩ := three_cell hp2
    rw [cells_more] at hb2
    clear hk2 hp2 hw2
    have HB2 : Hid (Lib.BuilderAtF 37 5 B b (.pointer (some ⟨b, 0, none⟩)) (Lib.byteCells (l ++ n.data.toList)) w2) := hb2
    clear hb2
    go_wp2_with fail
    go_returns
    exact ⟨rfl, by rw [← HE.out]; exact .inr HB2.out, HW2⟩
  · have HE : Hid (l ++ n.data.toList ++ [61] ++ q.data.toList = l ++ prD (n.data.toList, true, a.data.toList)) := by show _ = _; simp [prD, HQ.out]
    go_enter Tryd.func14, Tryd.ntmps14
    go_wp2_with fail
    refine (Tryd.Builder_WriteString_k B b _ n _ (HB.out.alloc _) (by rw [Lib.byteCells_length]; omega) (by simp; omega)).mono ?_
    rintro e w2 ⟨rfl, hb2, hw2, hk2⟩
    have HW2 := HA0.out.trans hw2
    have hp2 := kept_cells hk2 HP0.out (by omega) (by decide)
    obtain ⟨c0, c1, c2⟩ := three_cell hp2
    rw [cells_more] at hb2
    have HB2 : Hid (Lib.BuilderAtF 37 5 B b (.pointer (some ⟨b, 0, none⟩)) (Lib.byteCells (l ++ n.data.toList)) w2) := hb2
    clear hk2 hp2 hw2 hb2
    go_wp2_with fail
    refine (karg_at a q d HQ.out _ (by unfold maxLen; omega)).mono ?_
    rintro e w3 ⟨rfl, hb3⟩
    have HB3 : Hid (Lib.IsBuilderF 37 5 B b (Lib.byteCells (l ++ n.data.toList)) w3) := bw_below (.inr HB2.out) hb3
    have HW3 := HW2.trans (hb3.mono (Nat.le_trans hB HW2.size))
    clear hb3 c0 c1 c2
    go_wp2_with fail
    refine (Tryd.Builder_WriteString_k B b _ _ _ HB3.out (by rw [Lib.byteCells_length, List.length_append, size_list]; show _ + 1 ≤ _; omega) (by have := HW3.size; omega)).mono ?_
    rintro e w4 ⟨rfl, hb4, hw4, hk4⟩
    have HW4 := HW3.trans hw4
    rw [cells_more] at hb4
    have HB4 : Hid (Lib.BuilderAtF 37 5 B b (.pointer (some ⟨b, 0, none⟩)) (Lib.byteCells (l ++ n.data.toList ++ [61])) w4) := hb4
    clear hk4 hw4 hb4
    go_wp2_with fail
    refine (Tryd.Builder_WriteString_k B b _ q _ (.inr HB4.out) (by rw [Lib.byteCells_length, List.length_append, List.length_append, size_list]; show _ + 1 + _ ≤ _; omega) (by have := HW4.size; omega)).mono ?_
    rintro e w5 ⟨rfl, hb5, hw5, hk5⟩
    have HW5 := HW4.trans hw5
    rw [cells_more] at hb5
    have HB5 : Hid (Lib.BuilderAtF 37 5 B b (.pointer (some ⟨b, 0, none⟩)) (Lib.byteCells (l ++ n.data.toList ++ [61] ++ q.data.toList)) w5) := hb5
    clear hk5 hw5 hb5
    go_wp2_with fail
    go_returns
    exact ⟨rfl, by rw [← HE.out]; exact .inr HB5.out, HW5⟩
end Go.Proofs.YtoccjnbodoiibaaDoor
