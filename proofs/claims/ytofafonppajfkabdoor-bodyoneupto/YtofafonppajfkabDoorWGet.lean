/-
  What Get of package field computes; lists and texts are no longer than Go allows, and the values, with what stands between them, fit in 2^47 bytes.
-/
import Derived.Test.YtofafonppajfkabDoorSpecG
import Derived.Test.YtofafonppajfkabDoorWPick
import Derived.Test.YtofafonppajfkabDoorWInfo9
import Derived.Test.YtofafonppajfkabDoorOwn
namespace Go.Proofs.YtofafonppajfkabDoor
open Go.RowKit

def bas (ps : List (List UInt8)) : List ByteArray := ps.map fun p => ⟨p.toArray⟩
theorem bas_len (ps : List (List UInt8)) : (bas ps).length = ps.length := by simp [bas]
theorem bas_map (ps : List (List UInt8)) : (bas ps).map (·.data.toList) = ps := by
  induction ps with
  | nil => rfl
  | cons p ps ih => simp [bas] at ih ⊢; exact ih
theorem bas_get (ps : List (List UInt8)) (j : Nat) (x : ByteArray) (h : (bas ps)[j]? = some x) : (strs ps)[j]? = some (.string x) := by
  unfold bas at h
  unfold strs
  rw [List.getElem?_map] at h ⊢
  cases hp : ps[j]? with
  | none => rw [hp] at h; cases h
  | some p => rw [hp] at h; simp at h ⊢; exact h

theorem join_at (v : Value) (ps : List (List UInt8)) (B : Nat) (sep t : ByteArray) (ht : t.data.toList = Lib.join ps sep.data.toList) (w : World) (hown : w.ownsRow B 9 1 v ps.length (strs ps)) (hl : ps.length ≤ 140737488355328) (hj : t.size ≤ 140737488355328) :
    Calls Tryd.prog 27 #[v, .string sep] w fun e w' => e = .returned (.string t) ∧ Below w.heap.size w w' := by
  obtain ⟨ad, cap, hv, hcm, hnc, hc⟩ := own_slice hown
  subst hv
  by_cases h0 : ps.length = 0
  · have hp := List.eq_nil_of_length_eq_zero h0
    subst hp
    refine (Tryd.strings_Join_none ad cap sep w).mono ?_
    rintro e w' ⟨rfl, rfl⟩
    refine ⟨ret_str ?_, Below.refl _ _⟩
    apply ByteArray.ext; apply Array.ext'
    rw [ht]; rfl
  · obtain ⟨g, rfl, hgB, hgs, hce⟩ := hc (by omega)
    have c := Tryd.strings_Join g 0 cap (bas ps) sep w (fun j x hx => by
      have hjl : j < ps.length := by
        rw [← bas_len]
        rcases Nat.lt_or_ge j (bas ps).length with h | h
        · exact h
        · rw [List.getElem?_eq_none h] at hx; cases hx
      rw [Nat.zero_add, hce j hjl]
      exact bas_get ps j x hx) hgs (by rw [bas_len]; omega) (by rw [bas_len]; exact hnc) (by rw [bas_map, ← ht, size_list]; omega)
    rw [bas_len, bas_map] at c
    refine c.mono ?_
    rintro e w' ⟨rfl, hb⟩
    refine ⟨ret_str ?_, hb⟩
    apply ByteArray.ext; apply Array.ext'
    rw [ht]
theorem ret_sb {a b : ByteArray} {c d : Bool} (h : a = b) (h' : c = d) : Ending.returned (.tuple #[.string a, .bool c]) = .returned (.tuple #[.string b, .bool d]) := by rw [h, h']

set_option maxHeartbeats 2000000 in
set_option maxRecDepth 100000 in
theorem get_at (v : Value) (ls : List Fld) (s t : ByteArray) (b : Bool) (ht : t.data.toList = jn (vals ls s.data.toList)) (hb : b = !(vals ls s.data.toList).isEmpty) (w : World) (hf : Fl w v ls) (hl : Wide ls) (hs : s.size ≤ 140737488351232) (hj : t.size ≤ 140737488355328) :
    Calls Tryd.prog 17 #[v, .string s] w fun e w' => e = .returned (.tuple #[.string t, .bool b]) ∧ Below w.heap.size w w' := by
  obtain ⟨i0, hi, hz0, hz1, hz2⟩ := info_parts info9
  have HF : Hid (Fl w v ls) := hf
  have HL : Hid (Wide ls) := hl
  have HT : Hid (t.data.toList = jn (vals ls s.data.toList)) := ht
  have HB : Hid (b = !(vals ls s.data.toList).isEmpty) := hb
  clear hf hl ht hb
  go_enter Tryd.func17, Tryd.ntmps17
  go_wp2_with fail
  refine (named_any s _ hs).mono ?_
  rintro e w1 ⟨f, rfl, hp1, hb1⟩
  have HP1 : Hid (Pred w1 f (fun x => lower x.1 == lower s.data.toList)) := hp1
  clear hp1
  go_wp2_with fail
  refine (pick_any _ _ ls _ _ (HF.out.below hb1) HL.out HP1.out).mono ?_
  rintro e w2 ⟨v2, rfl, hown2, hb2⟩
  obtain ⟨P, hP⟩ : ∃ P, P = ls.filter (nm s.data.toList) := ⟨_, rfl⟩
  have HP : Hid (vals ls s.data.toList = P.map (·.2)) := by show _ = _; rw [hP]; rfl
  have hPl : P.length * 32 ≤ 140737488351232 := by rw [hP]; exact (HL.out.filter (nm s.data.toList)).2
  have hF2 : Fl w2 v2 P := by rw [hP]; exact Fl.own hown2
  have hw2 := hb1.trans (hb2.mono hb1.size)
  obtain ⟨ad, cap, hv, hcap, hcm, hc⟩ := hF2
  subst hv
  have HC : Hid (0 < P.length → ∃ g off, ad = some ⟨g, off, none⟩ ∧ g < w2.heap.size ∧
    ∀ (k : Nat) (h : k < P.length), w2.cell? ⟨g, off + k * 2, none⟩ = some (.string ⟨(P[k]).1.toArray⟩) ∧ w2.cell? ⟨g, off + k * 2 + 1, none⟩ = some (.string ⟨(P[k]).2.toArray⟩)) := hc
  clear hc hown2 hb2 hb1 HP1 hP
  unfold maxLen at hcm
  have hsz2 := hw2.size
  go_wp2_with fail
  go_loopw [6, 14] (fun o i wr => ∃ k : Nat, k ≤ P.length ∧ i = .int .i64 k ∧ wr.ownsRow w2.heap.size 9 1 o ((P.take k).map (·.2)).length (strs ((P.take k).map (·.2))) ∧ Below w2.heap.size w2 wr) (fun _ i _ => P.length - (intOf i).toNat)
  case atStart => exact ⟨0, Nat.zero_le _, rfl, by simpa [strs] using World.ownsRow_nil w2 w2.heap.size 9 1, Below.refl _ _⟩
  case round =>
    obtain ⟨k, hk, rfl, hown, hw⟩ := hrel
    have hsz := hw.size
    have hml : ((P.take k).map (·.2)).length = k := by rw [List.length_map, List.length_take]; omega
    by_cases hlt : k < P.length
    · obtain ⟨g, off, rfl, hgs, hce⟩ := HC.out (by omega)
      obtain ⟨c1, c2⟩ := hce k hlt
      obtain ⟨n, hn⟩ : ∃ n : ByteArray, n = ⟨(P[k]).1.toArray⟩ := ⟨_, rfl⟩
      obtain ⟨u, hu⟩ : ∃ u : ByteArray, u = ⟨(P[k]).2.toArray⟩ := ⟨_, rfl⟩
      have HE : Hid ((P.take (k + 1)).map (·.2) = (P.take k).map (·.2) ++ [u.data.toList]) := by
        show _ = _
        rw [List.take_succ_eq_append_getElem hlt, List.map_append, hu]; rfl
      have d1 : wr.cell? ⟨g, off + k * 2, none⟩ = some (.string n) := by rw [hw.cell (p := ⟨g, off + k * 2, none⟩) hgs, hn]; exact c1
      have d2 : wr.cell? ⟨g, off + k * 2 + 1, none⟩ = some (.string u) := by rw [hw.cell (p := ⟨g, off + k * 2 + 1, none⟩) hgs, hu]; exact c2
      have hgr : g < wr.heap.size := by omega
      clear hce c1 c2 hn hu
      have hki : (k : Int) < (P.length : Int) := by omega
      have hk0 : (0 : Int) ≤ (k : Int) := by omega
      have hown0 := hown.alloc (.cells #[.string n, .string u] 36)
      have hw0 := hw.alloc hsz (.cells #[.string n, .string u] 36)
      have HML : Hid (((P.take k).map (·.2)).length = k) := hml
      clear hown hml
      go_wp2_with (at_builtin; refine wpList_append_own _ rfl _ _ 59 rfl w2.heap.size 9 i0 (.string ⟨#[]⟩) 1 16 Tryd.underlying59 hi hz0 hz1 hz2 rfl (by decide) _ _ _ rfl (hown0.alloc _) ⟨wr.heap.size + 1, 0, none⟩ 1 1 [.string u] rfl rfl ?c1 ?c2 ?c3 ?c4 ?c5 ?_)
      case c2 => rfl
      case c3 => unfold maxLen; omega
      case c4 => omega
      case c5 => omega
      · intro v' w4 hown' hgrow _
        have hB : Below w2.heap.size w2 w4 := (hw0.alloc (by simp; omega) _).grown hgrow (by simp; omega) (fun b hb => ((hown0.alloc (.cells #[.string u] 9)).lt b hb).1)
        have hown4 : w4.ownsRow w2.heap.size 9 1 v' ((P.take (k + 1)).map (·.2)).length (strs ((P.take (k + 1)).map (·.2))) := by
          rw [HE.out, ← strs_snoc, List.length_append, HML.out, List.map_take]; exact hown'
        clear hown' hgrow hown0 hw0
        go_wp2_with fail
        go_roundw
        case rel => exact ⟨k + 1, by omega, by go_num, hown4, hB⟩
        case measure => simp [intOf]; omega
    · obtain rfl : k = P.length := by omega
      rw [List.take_length] at hown
      have HJ : Hid (t.data.toList = Lib.join (P.map (·.2)) (⟨#[44, 32]⟩ : ByteArray).data.toList) := by show _ = _; rw [← HP.out]; exact HT.out
      obtain ⟨ad', cap', hv', hcm', hnc', hcx⟩ := own_slice hown
      have hml2 : (P.map (·.2)).length = P.length := List.length_map _
      have HBB : Hid (decide (0 < P.length) = b) := by
        show _ = _
        rw [HB.out, HP.out]
        cases P <;> simp
      have HO : Hid (wr.ownsRow w2.heap.size 9 1 (.slice ad' (P.map (·.2)).length cap') (P.map (·.2)).length (strs (P.map (·.2)))) := by show World.ownsRow _ _ _ _ _ _ _; rw [← hv']; exact hown
      subst hv'
      clear hcx hown
      rw [hml2] at HO hnc' ⊢
      go_wp2_with fail
      refine (join_at _ (P.map (·.2)) w2.heap.size _ t HJ.out _ (by rw [hml2]; exact HO.out) (by rw [hml2]; omega) hj).mono ?_
      rintro e w5 ⟨rfl, hb5⟩
      have hw5 := hw2.trans ((hw.trans (hb5.mono hsz)).mono hsz2)
      go_wp2_with fail
      go_ret2
      exact ⟨ret_sb rfl HBB.out, hw5⟩
end Go.Proofs.YtofafonppajfkabDoor
