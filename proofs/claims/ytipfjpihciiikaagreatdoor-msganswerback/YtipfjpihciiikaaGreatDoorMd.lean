/-
  What clone of package field computes; a string is no longer than Go allows.
-/
import Derived.Test.YtipfjpihciiikaaGreatDoorMc
import Derived.Test.YtipfjpihciiikaaGreatDoorShelf
import Derived.Test.YtipfjpihciiikaaGreatDoorRows
import Derived.Deep.RegionHeld3
import Derived.Lib.ItoaMem
import Derived.Laws.BitsAllLaws
import Derived.Laws.Rows
import Derived.BigQuiet
import Derived.Deep.QuietTactic
import Derived.Shelf.Strings.Builder1
import Derived.Shelf.Strings.BuilderK
import Derived.Shelf.Strings.MapGrows
namespace Go.Proofs.YtipfjpihciiikaaGreatDoor
open Go.RowKit

theorem pair_all {w : World} {g : Nat} {t : TypeId} {n u : Value} (h : w.heap[g]? = some (.cells #[n, u] t (0, 0))) :
    w.cell? ⟨g, 0, none⟩ = some n ∧ w.cell? ⟨g, 1, none⟩ = some u ∧ w.frozen? ⟨g, 0, none⟩ = false ∧ w.frozen? ⟨g, 1, none⟩ = false ∧ g < w.heap.size := by
  refine ⟨?_, ?_, Lib.frozen_of_heap h 0, Lib.frozen_of_heap h 1, (Array.getElem?_eq_some_iff.1 h).1⟩ <;> rw [Lib.cell_of_heap h] <;> rfl

theorem sc_keep {w W w3 : World} {n u : ByteArray} (h : W.cell? ⟨w.heap.size, 0, none⟩ = some (.string n) ∧ W.cell? ⟨w.heap.size, 1, none⟩ = some (.string u) ∧ W.cell? ⟨w.heap.size + 1, 0, none⟩ = some (.string ⟨#[]⟩) ∧ W.cell? ⟨w.heap.size + 1, 1, none⟩ = some (.string ⟨#[]⟩) ∧ W.frozen? ⟨w.heap.size + 1, 0, none⟩ = false ∧ W.frozen? ⟨w.heap.size + 1, 1, none⟩ = false ∧ w.heap.size + 1 < W.heap.size ∧ Below w.heap.size w W) (hb : Below W.heap.size W w3) :
    w3.cell? ⟨w.heap.size, 0, none⟩ = some (.string n) ∧ w3.cell? ⟨w.heap.size, 1, none⟩ = some (.string u) ∧ w3.cell? ⟨w.heap.size + 1, 0, none⟩ = some (.string ⟨#[]⟩) ∧ w3.cell? ⟨w.heap.size + 1, 1, none⟩ = some (.string ⟨#[]⟩) ∧ w3.frozen? ⟨w.heap.size + 1, 0, none⟩ = false ∧ w3.frozen? ⟨w.heap.size + 1, 1, none⟩ = false ∧ w.heap.size + 1 < w3.heap.size ∧ Below w.heap.size w w3 := by
  obtain ⟨h1, h2, h3, h4, h5, h6, h7, h8⟩ := h
  have hs := hb.size
  exact ⟨(hb.cell (p := ⟨w.heap.size, 0, none⟩) (by show w.heap.size < _; omega)).trans h1, (hb.cell (p := ⟨w.heap.size, 1, none⟩) (by show w.heap.size < _; omega)).trans h2, (hb.cell (p := ⟨w.heap.size + 1, 0, none⟩) h7).trans h3, (hb.cell (p := ⟨w.heap.size + 1, 1, none⟩) h7).trans h4, (hb.frozen (p := ⟨w.heap.size + 1, 0, none⟩) h7).trans h5, (hb.frozen (p := ⟨w.heap.size + 1, 1, none⟩) h7).trans h6, by omega, h8.trans (hb.mono (by omega))⟩
theorem sc_start (w : World) (n u : ByteArray) (t : TypeId) : ((w.alloc (.cells #[.string n, .string u] t)).alloc (.cells #[.string ⟨#[]⟩, .string ⟨#[]⟩] t)).drew.cell? ⟨w.heap.size, 0, none⟩ = some (.string n) ∧ ((w.alloc (.cells #[.string n, .string u] t)).alloc (.cells #[.string ⟨#[]⟩, .string ⟨#[]⟩] t)).drew.cell? ⟨w.heap.size, 1, none⟩ = some (.string u) ∧ ((w.alloc (.cells #[.string n, .string u] t)).alloc (.cells #[.string ⟨#[]⟩, .string ⟨#[]⟩] t)).drew.cell? ⟨w.heap.size + 1, 0, none⟩ = some (.string ⟨#[]⟩) ∧ ((w.alloc (.cells #[.string n, .string u] t)).alloc (.cells #[.string ⟨#[]⟩, .string ⟨#[]⟩] t)).drew.cell? ⟨w.heap.size + 1, 1, none⟩ = some (.string ⟨#[]⟩) ∧ ((w.alloc (.cells #[.string n, .string u] t)).alloc (.cells #[.string ⟨#[]⟩, .string ⟨#[]⟩] t)).drew.frozen? ⟨w.heap.size + 1, 0, none⟩ = false ∧ ((w.alloc (.cells #[.string n, .string u] t)).alloc (.cells #[.string ⟨#[]⟩, .string ⟨#[]⟩] t)).drew.frozen? ⟨w.heap.size + 1, 1, none⟩ = false ∧ w.heap.size + 1 < ((w.alloc (.cells #[.string n, .string u] t)).alloc (.cells #[.string ⟨#[]⟩, .string ⟨#[]⟩] t)).drew.heap.size ∧ Below w.heap.size w ((w.alloc (.cells #[.string n, .string u] t)).alloc (.cells #[.string ⟨#[]⟩, .string ⟨#[]⟩] t)).drew := by
  have e : (w.alloc (.cells #[.string n, .string u] t)).heap.size = w.heap.size + 1 := by simp
  have f0 := new_free (w.alloc (.cells #[.string n, .string u] t)) #[.string ⟨#[]⟩, .string ⟨#[]⟩] t 0
  have f1 := new_free (w.alloc (.cells #[.string n, .string u] t)) #[.string ⟨#[]⟩, .string ⟨#[]⟩] t 1
  rw [e] at f0 f1
  exact ⟨by simp, by simp, by simp, by simp, f0, f1, by simp, (((Below.refl _ w).alloc (Nat.le_refl _) _).alloc (by simp) _).drew⟩

set_option maxHeartbeats 2000000 in
set_option maxRecDepth 100000 in
theorem fclone_any (n u : ByteArray) (w : World) (hn : n.size ≤ 281474976710656) (hu : u.size ≤ 281474976710656) :
    Calls Tryz.prog 98 #[.agg #[.string n, .string u]] w fun e w' => e = .returned (.agg #[.string n, .string u]) ∧ Below w.heap.size w w' := by
  go_enter Tryz.func98, Tryz.ntmps98
  go_wp2_with fail
  go_region_held3 (fun w' => w'.cell? ⟨w.heap.size, 0, none⟩ = some (.string n) ∧ w'.cell? ⟨w.heap.size, 1, none⟩ = some (.string u)) (go_keep) (first | (go_at_call 49; refine (clone_big _ _ (by omega)).mono ?_; rintro e w3 ⟨rfl, hb⟩; first | (have hx := sc_keep (by assumption) hb) | (have hx := sc_keep (sc_start w n u _) hb)))
  all_goals
    obtain ⟨_, _, h1, h2, h3, h4, h5, h6⟩ := hx
    go_wp2_with fail
    refine bodyPost_ret (v := .agg #[.string n, .string u]) (by simp [results, Tryz.results98, go_sem, h1, h2]) rfl ⟨rfl, ?_⟩
    exact (h6.setCell (p := ⟨w.heap.size + 1, 0, none⟩) (by simp) _).setCell (p := ⟨w.heap.size + 1, 1, none⟩) (by simp) _
end Go.Proofs.YtipfjpihciiikaaGreatDoor

/-
  The row of the type of fields, and blocks of one field; over the program's table of types.
-/
namespace Go.Proofs.YtipfjpihciiikaaGreatDoor
open Go.RowKit

theorem infoF : (Tryz.prog.info? 57).map (fun i => (i.zero, i.size, i.bytes)) = some (some (.agg #[.string ⟨#[]⟩, .string ⟨#[]⟩]), 2, 32) := by kernel_rfl
theorem pair_below {w w' : World} {g : Nat} {t : TypeId} {n u : Value} (h : w.heap[g]? = some (.cells #[n, u] t (0, 0))) (hb : Below w.heap.size w w') : w'.heap[g]? = some (.cells #[n, u] t (0, 0)) :=
  (hb.block g (Array.getElem?_eq_some_iff.1 h).1).trans h
theorem pair_new (w : World) (t : TypeId) (n u : Value) : (w.alloc (.cells #[n, u] t)).heap[w.heap.size]? = some (.cells #[n, u] t (0, 0)) := heap_alloc_new _ _
theorem flds_one (ls : List Fld) : ∀ u ∈ flds ls, u.oneCell' = true := by
  intro u hu
  unfold flds at hu
  obtain ⟨x, _, hx⟩ := List.mem_flatMap.1 hu
  simp at hx
  rcases hx with rfl | rfl <;> rfl
end Go.Proofs.YtipfjpihciiikaaGreatDoor

/-
  What pick of package field and slices.IndexFunc compute over a function value that answers p of each field; lists and texts are no longer than Go allows.
-/
namespace Go.Proofs.YtipfjpihciiikaaGreatDoor
open Go.RowKit

/-- What fits in the memory that Go's limits allow. -/
def Wide (ls : List Fld) : Prop := (∀ x ∈ ls, x.1.length ≤ 140737488351232 ∧ x.2.length ≤ 140737488351232) ∧ ls.length * 32 ≤ 140737488351232
theorem Wide.filter {ls : List Fld} (h : Wide ls) (p : Fld → Bool) : Wide (ls.filter p) := by
  refine ⟨fun x hx => h.1 x (List.mem_filter.1 hx).1, ?_⟩
  have := List.length_filter_le p ls
  have := h.2
  omega
theorem Wide.take {ls : List Fld} (h : Wide ls) (k : Nat) : Wide (ls.take k) := by
  refine ⟨fun x hx => h.1 x (List.mem_of_mem_take hx), ?_⟩
  have := List.length_take_le' k ls
  have := h.2
  omega
theorem Wide.drop {ls : List Fld} (h : Wide ls) (k : Nat) : Wide (ls.drop k) := by
  refine ⟨fun x hx => h.1 x (List.mem_of_mem_drop hx), ?_⟩
  have := h.2
  rw [List.length_drop]
  omega
theorem filter_take (ls : List Fld) (p : Fld → Bool) (k : Nat) (h : k < ls.length) : (ls.take (k + 1)).filter p = (ls.take k).filter p ++ (if p ls[k] then [ls[k]] else []) := by
  rw [List.take_succ_eq_append_getElem h, List.filter_append]
  congr 1
  rw [List.filter_cons]; rfl

set_option maxHeartbeats 2000000 in
set_option maxRecDepth 100000 in
theorem pick_any (v f : Value) (ls : List Fld) (p : Fld → Bool) (w : World) (hf : Fl w v ls) (hl : Wide ls) (hp : Pred w f p) :
    Calls Tryz.prog 64 #[v, f] w fun e w' => ∃ v', e = .returned v' ∧ w'.ownsRow w.heap.size 57 2 v' (ls.filter p).length (flds (ls.filter p)) ∧ Below w.heap.size w w' := by
  obtain ⟨i0, hi, hz0, hz1, hz2⟩ := info_parts infoF
  obtain ⟨ad, cap, hv, hcap, hcm, hc⟩ := hf
  obtain ⟨g0, lb, hfv, eg, hpc⟩ := hp
  subst hv hfv
  have HC : Hid (0 < ls.length → ∃ g off, ad = some ⟨g, off, none⟩ ∧ g < w.heap.size ∧
    ∀ (k : Nat) (h : k < ls.length), w.cell? ⟨g, off + k * 2, none⟩ = some (.string ⟨(ls[k]).1.toArray⟩) ∧ w.cell? ⟨g, off + k * 2 + 1, none⟩ = some (.string ⟨(ls[k]).2.toArray⟩)) := hc
  have HPC : Hid (∀ (W : World) (n u : ByteArray), Below w.heap.size w W → n.size ≤ 140737488351232 → Calls Tryz.prog g0 (#[.agg #[.string n, .string u]] ++ lb) W fun e w' => e = .returned (.bool (p (n.data.toList, u.data.toList))) ∧ Below W.heap.size W w') := hpc
  have HL : Hid (Wide ls) := hl
  have hll := hl.2
  clear hc hpc hl
  unfold maxLen at hcm
  go_enter Tryz.func64, Tryz.ntmps64
  go_wp2_with fail
  go_loopw [5, 10] (fun o i wr => ∃ k : Nat, k ≤ ls.length ∧ i = .int .i64 k ∧ wr.ownsRow w.heap.size 57 2 o ((ls.take k).filter p).length (flds ((ls.take k).filter p)) ∧ Below w.heap.size w wr) (fun _ i _ => ls.length - (intOf i).toNat)
  case atStart => exact ⟨0, Nat.zero_le _, rfl, World.ownsRow_nil _ _ _ _, Below.refl _ _⟩
  case round =>
    obtain ⟨k, hk, rfl, hown, hw⟩ := hrel
    have hsz := hw.size
    by_cases hlt : k < ls.length
    · obtain ⟨g, off, rfl, hgs, hce⟩ := HC.out (by omega)
      obtain ⟨c1, c2⟩ := hce k hlt
      have hmo := HL.out.1 ls[k] (List.getElem_mem hlt)
      obtain ⟨n, hn⟩ : ∃ n : ByteArray, n = ⟨(ls[k]).1.toArray⟩ := ⟨_, rfl⟩
      obtain ⟨u, hu⟩ : ∃ u : ByteArray, u = ⟨(ls[k]).2.toArray⟩ := ⟨_, rfl⟩
      have hns : n.size ≤ 140737488351232 := by rw [← size_list, hn]; exact hmo.1
      have hus : u.size ≤ 140737488351232 := by rw [← size_list, hu]; exact hmo.2
      have HE : Hid ((n.data.toList, u.data.toList) = ls[k]) := by show _ = _; rw [hn, hu]
      have d1 : wr.cell? ⟨g, off + k * 2, none⟩ = some (.string n) := by rw [hw.cell (p := ⟨g, off + k * 2, none⟩) hgs, hn]; exact c1
      have d2 : wr.cell? ⟨g, off + k * 2 + 1, none⟩ = some (.string u) := by rw [hw.cell (p := ⟨g, off + k * 2 + 1, none⟩) hgs, hu]; exact c2
      have hgr : g < wr.heap.size := by omega
      clear hce c1 c2 hmo hn hu
      have hki : (k : Int) < (ls.length : Int) := by omega
      have hk0 : (0 : Int) ≤ (k : Int) := by omega
      have HN0 : Hid ((wr.alloc (.cells #[.string n, .string u] 57)).heap[wr.heap.size]? = some (.cells #[.string n, .string u] 57 (0, 0))) := pair_new _ _ _ _
      have hw0 := hw.alloc hsz (.cells #[.string n, .string u] 57)
      have hown0 := hown.alloc (.cells #[.string n, .string u] 57)
      have HF := filter_take ls p k hlt
      have hfl : ((ls.take k).filter p).length ≤ k := by
        have h1 := List.length_filter_le p (ls.take k)
        have h2 := List.length_take_le k ls
        omega
      cases hq : p (n.data.toList, u.data.toList)
      · have HQ : Hid (p (n.data.toList, u.data.toList) = false) := hq
        rw [← HE.out, hq] at HF
        have HF2 : Hid ((ls.take (k + 1)).filter p = (ls.take k).filter p) := by show _ = _; rw [HF]; simp
        clear HF hq hown
        go_wp2_with (go_at_fn g0; refine (HPC.out _ n u hw0 hns).mono ?_; rintro e w2 ⟨rfl, hb2⟩; rw [HQ.out])
        go_roundw
        case rel => exact ⟨k + 1, by omega, by go_num, by rw [HF2.out]; exact own_below3 hown0 hb2, hw0.trans (hb2.mono hw0.size)⟩
        case measure => simp [intOf]; omega
      · have HQ : Hid (p (n.data.toList, u.data.toList) = true) := hq
        rw [← HE.out, hq] at HF
        have HF2 : Hid ((ls.take (k + 1)).filter p = (ls.take k).filter p ++ [(n.data.toList, u.data.toList)]) := by show _ = _; rw [HF]; simp
        clear HF hq hown
        go_wp2_with (go_at_fn g0; refine (HPC.out _ n u hw0 hns).mono ?_; rintro e w2 ⟨rfl, hb2⟩; rw [HQ.out]; have hown2 := own_below3 hown0 hb2; have hw2 := hw0.trans (hb2.mono hw0.size); obtain ⟨n1, n2, n3, n4, n5⟩ := pair_all (pair_below HN0.out hb2))
        refine (fclone_any n u _ (by omega) (by omega)).mono ?_
        rintro e w3 ⟨rfl, hb3⟩
        have hown3 := own_below3 hown2 hb3
        have hw3 := hw2.trans (hb3.mono hw2.size)
        have hsz3 := hw3.size
        clear hown2 hb3 hb2 hown0 n1 n2 n3 n4
        go_wp2_with (at_builtin; refine wpList_append_own _ rfl _ _ 22 rfl w.heap.size 57 i0 (.agg #[.string ⟨#[]⟩, .string ⟨#[]⟩]) 2 32 Tryz.underlying22 hi hz0 hz1 hz2 rfl (by decide) _ _ _ rfl (hown3.alloc _) ⟨w3.heap.size, 0, none⟩ 1 1 [.string n, .string u] rfl rfl ?c1 ?c2 ?c3 ?c4 ?c5 ?_)
        case c1 =>
          intro j z h
          match j, h with
          | 0, h => simp at h; subst h; simp [Addr.add]
          | 1, h => simp at h; subst h; simp [Addr.add]
        case c2 => intro z hx; simp at hx; rcases hx with rfl | rfl <;> rfl
        case c3 => unfold maxLen; omega
        case c4 => omega
        case c5 => simp; omega
        · intro v' w4 hown' hgrow _
          have hB : Below w.heap.size w w4 := (hw3.alloc (by omega) _).grown hgrow (by simp; omega) (fun b hb => ((hown3.alloc (.cells #[.string n, .string u] 57)).lt b hb).1)
          have hown4 : w4.ownsRow w.heap.size 57 2 v' ((ls.take (k + 1)).filter p).length (flds ((ls.take (k + 1)).filter p)) := by
            rw [HF2.out, ← flds_snoc, List.length_append]; exact hown'
          clear hown' hgrow hown3 hw3
          go_wp2_with fail
          go_roundw
          case rel => exact ⟨k + 1, by omega, by go_num, hown4, hB⟩
          case measure => simp [intOf]; omega
    · obtain rfl : k = ls.length := by omega
      rw [List.take_length] at hown
      go_wp2_with fail
      go_ret
      exact ⟨_, rfl, hown, hw⟩
end Go.Proofs.YtipfjpihciiikaaGreatDoor

/-
  What Get of package field computes; lists and texts are no longer than Go allows, and the values, with what stands between them, fit in 2^47 bytes.
-/
namespace Go.Proofs.YtipfjpihciiikaaGreatDoor
open Go.RowKit

def bas (ps : List (List UInt8)) : List ByteArray := ps.map fun p => ⟨p.toArray⟩
theorem bas_len (ps : List (List UInt8)) : (bas ps).length = ps.length := by simp [bas]
theorem bas_map (ps : List (List UInt8)) : (bas ps).map (·.data.toList) = ps := by
  induction ps with
  | nil => rfl
  | cons p ps ih => simp [bas] at ih ⊢; exact ih
theorem bas_get (ps : List (List UInt8)) (j : Nat) (x : ByteArray) (h : (bas ps)[j]? = some x) : (strs ps)[j]? = some (.string x) := by
  unfold bas at h
  unfold strs
  rw [List.getElem?_map] at h ⊢
  cases hp : ps[j]? with
  | none => rw [hp] at h; cases h
  | some p => rw [hp] at h; simp at h ⊢; exact h

theorem join_at (v : Value) (ps : List (List UInt8)) (B : Nat) (sep t : ByteArray) (ht : t.data.toList = Lib.join ps sep.data.toList) (w : World) (hown : w.ownsRow B 9 1 v ps.length (strs ps)) (hl : ps.length ≤ 140737488355328) (hj : t.size ≤ 140737488355328) :
    Calls Tryz.prog 66 #[v, .string sep] w fun e w' => e = .returned (.string t) ∧ Below w.heap.size w w' := by
  obtain ⟨ad, cap, hv, hcm, hnc, hc⟩ := own_slice hown
  subst hv
  by_cases h0 : ps.length = 0
  · have hp := List.eq_nil_of_length_eq_zero h0
    subst hp
    refine (Tryz.strings_Join_none ad cap sep w).mono ?_
    rintro e w' ⟨rfl, rfl⟩
    refine ⟨ret_str ?_, Below.refl _ _⟩
    apply ByteArray.ext; apply Array.ext'
    rw [ht]; rfl
  · obtain ⟨g, rfl, hgB, hgs, hce⟩ := hc (by omega)
    have c := Tryz.strings_Join g 0 cap (bas ps) sep w (fun j x hx => by
      have hjl : j < ps.length := by
        rw [← bas_len]
        rcases Nat.lt_or_ge j (bas ps).length with h | h
        · exact h
        · rw [List.getElem?_eq_none h] at hx; cases hx
      rw [Nat.zero_add, hce j hjl]
      exact bas_get ps j x hx) hgs (by rw [bas_len]; omega) (by rw [bas_len]; exact hnc) (by rw [bas_map, ← ht, size_list]; omega)
    rw [bas_len, bas_map] at c
    refine c.mono ?_
    rintro e w' ⟨rfl, hb⟩
    refine ⟨ret_str ?_, hb⟩
    apply ByteArray.ext; apply Array.ext'
    rw [ht]
theorem ret_sb {a b : ByteArray} {c d : Bool} (h : a = b) (h' : c = d) : Ending.returned (.tuple #[.string a, .bool c]) = .returned (.tuple #[.string b, .bool d]) := by rw [h, h']

set_option maxHeartbeats 2000000 in
set_option maxRecDepth 100000 in
theorem get_at (v : Value) (ls : List Fld) (s t : ByteArray) (b : Bool) (ht : t.data.toList = jn (vals ls s.data.toList)) (hb : b = !(vals ls s.data.toList).isEmpty) (w : World) (hf : Fl w v ls) (hl : Wide ls) (hs : s.size ≤ 140737488351232) (hj : t.size ≤ 140737488355328) :
    Calls Tryz.prog 34 #[v, .string s] w fun e w' => e = .returned (.tuple #[.string t, .bool b]) ∧ Below w.heap.size w w' := by
  obtain ⟨i0, hi, hz0, hz1, hz2⟩ := info_parts info9
  have HF : Hid (Fl w v ls) := hf
  have HL : Hid (Wide ls) := hl
  have HT : Hid (t.data.toList = jn (vals ls s.data.toList)) := ht
  have HB : Hid (b = !(vals ls s.data.toList).isEmpty) := hb
  clear hf hl ht hb
  go_enter Tryz.func34, Tryz.ntmps34
  go_wp2_with fail
  refine (named_any s _ hs).mono ?_
  rintro e w1 ⟨f, rfl, hp1, hb1⟩
  have HP1 : Hid (Pred w1 f (fun x => lower x.1 == lower s.data.toList)) := hp1
  clear hp1
  go_wp2_with fail
  refine (pick_any _ _ ls _ _ (HF.out.below hb1) HL.out HP1.out).mono ?_
  rintro e w2 ⟨v2, rfl, hown2, hb2⟩
  obtain ⟨P, hP⟩ : ∃ P, P = ls.filter (nm s.data.toList) := ⟨_, rfl⟩
  have HP : Hid (vals ls s.data.toList = P.map (·.2)) := by show _ = _; rw [hP]; rfl
  have hPl : P.length * 32 ≤ 140737488351232 := by rw [hP]; exact (HL.out.filter (nm s.data.toList)).2
  have hF2 : Fl w2 v2 P := by rw [hP]; exact Fl.own hown2
  have hw2 := hb1.trans (hb2.mono hb1.size)
  obtain ⟨ad, cap, hv, hcap, hcm, hc⟩ := hF2
  subst hv
  have HC : Hid (0 < P.length → ∃ g off, ad = some ⟨g, off, none⟩ ∧ g < w2.heap.size ∧
    ∀ (k : Nat) (h : k < P.length), w2.cell? ⟨g, off + k * 2, none⟩ = some (.string ⟨(P[k]).1.toArray⟩) ∧ w2.cell? ⟨g, off + k * 2 + 1, none⟩ = some (.string ⟨(P[k]).2.toArray⟩)) := hc
  clear hc hown2 hb2 hb1 HP1 hP
  unfold maxLen at hcm
  have hsz2 := hw2.size
  go_wp2_with fail
  go_loopw [6, 14] (fun o i wr => ∃ k : Nat, k ≤ P.length ∧ i = .int .i64 k ∧ wr.ownsRow w2.heap.size 9 1 o ((P.take k).map (·.2)).length (strs ((P.take k).map (·.2))) ∧ Below w2.heap.size w2 wr) (fun _ i _ => P.length - (intOf i).toNat)
  case atStart => exact ⟨0, Nat.zero_le _, rfl, by simpa [strs] using World.ownsRow_nil w2 w2.heap.size 9 1, Below.refl _ _⟩
  case round =>
    obtain ⟨k, hk, rfl, hown, hw⟩ := hrel
    have hsz := hw.size
    have hml : ((P.take k).map (·.2)).length = k := by rw [List.length_map, List.length_take]; omega
    by_cases hlt : k < P.length
    · obtain ⟨g, off, rfl, hgs, hce⟩ := HC.out (by omega)
      obtain ⟨c1, c2⟩ := hce k hlt
      obtain ⟨n, hn⟩ : ∃ n : ByteArray, n = ⟨(P[k]).1.toArray⟩ := ⟨_, rfl⟩
      obtain ⟨u, hu⟩ : ∃ u : ByteArray, u = ⟨(P[k]).2.toArray⟩ := ⟨_, rfl⟩
      have HE : Hid ((P.take (k + 1)).map (·.2) = (P.take k).map (·.2) ++ [u.data.toList]) := by
        show _ = _
        rw [List.take_succ_eq_append_getElem hlt, List.map_append, hu]; rfl
      have d1 : wr.cell? ⟨g, off + k * 2, none⟩ = some (.string n) := by rw [hw.cell (p := ⟨g, off + k * 2, none⟩) hgs, hn]; exact c1
      have d2 : wr.cell? ⟨g, off + k * 2 + 1, none⟩ = some (.string u) := by rw [hw.cell (p := ⟨g, off + k * 2 + 1, none⟩) hgs, hu]; exact c2
      have hgr : g < wr.heap.size := by omega
      clear hce c1 c2 hn hu
      have hki : (k : Int) < (P.length : Int) := by omega
      have hk0 : (0 : Int) ≤ (k : Int) := by omega
      have hown0 := hown.alloc (.cells #[.string n, .string u] 57)
      have hw0 := hw.alloc hsz (.cells #[.string n, .string u] 57)
      have HML : Hid (((P.take k).map (·.2)).length = k) := hml
      clear hown hml
      go_wp2_with (at_builtin; refine wpList_append_own _ rfl _ _ 78 rfl w2.heap.size 9 i0 (.string ⟨#[]⟩) 1 16 Tryz.underlying78 hi hz0 hz1 hz2 rfl (by decide) _ _ _ rfl (hown0.alloc _) ⟨wr.heap.size + 1, 0, none⟩ 1 1 [.string u] rfl rfl ?c1 ?c2 ?c3 ?c4 ?c5 ?_)
      case c2 => rfl
      case c3 => unfold maxLen; omega
      case c4 => omega
      case c5 => omega
      · intro v' w4 hown' hgrow _
        have hB : Below w2.heap.size w2 w4 := (hw0.alloc (by simp; omega) _).grown hgrow (by simp; omega) (fun b hb => ((hown0.alloc (.cells #[.string u] 9)).lt b hb).1)
        have hown4 : w4.ownsRow w2.heap.size 9 1 v' ((P.take (k + 1)).map (·.2)).length (strs ((P.take (k + 1)).map (·.2))) := by
          rw [HE.out, ← strs_snoc, List.length_append, HML.out, List.map_take]; exact hown'
        clear hown' hgrow hown0 hw0
        go_wp2_with fail
        go_roundw
        case rel => exact ⟨k + 1, by omega, by go_num, hown4, hB⟩
        case measure => simp [intOf]; omega
    · obtain rfl : k = P.length := by omega
      rw [List.take_length] at hown
      have HJ : Hid (t.data.toList = Lib.join (P.map (·.2)) (⟨#[44, 32]⟩ : ByteArray).data.toList) := by show _ = _; rw [← HP.out]; exact HT.out
      obtain ⟨ad', cap', hv', hcm', hnc', hcx⟩ := own_slice hown
      have hml2 : (P.map (·.2)).length = P.length := List.length_map _
      have HBB : Hid (decide (0 < P.length) = b) := by
        show _ = _
        rw [HB.out, HP.out]
        cases P <;> simp
      have HO : Hid (wr.ownsRow w2.heap.size 9 1 (.slice ad' (P.map (·.2)).length cap') (P.map (·.2)).length (strs (P.map (·.2)))) := by show World.ownsRow _ _ _ _ _ _ _; rw [← hv']; exact hown
      subst hv'
      clear hcx hown
      rw [hml2] at HO hnc' ⊢
      go_wp2_with fail
      refine (join_at _ (P.map (·.2)) w2.heap.size _ t HJ.out _ (by rw [hml2]; exact HO.out) (by rw [hml2]; omega) hj).mono ?_
      rintro e w5 ⟨rfl, hb5⟩
      have hw5 := hw2.trans ((hw.trans (hb5.mono hsz)).mono hsz2)
      go_wp2_with fail
      go_ret2
      exact ⟨ret_sb rfl HBB.out, hw5⟩
end Go.Proofs.YtipfjpihciiikaaGreatDoor

/-
  What Kind of package body computes; lists and texts are no longer than Go allows, the values with what stands between them fit in 2^47 bytes, and the listed variables of package strconv hold what their text lays.
-/
namespace Go.Proofs.YtipfjpihciiikaaGreatDoor
open Go.RowKit

theorem kd_never (req : Bool) (m : List UInt8) (c : Int) (ls : List Fld) (h1 : req = false) (h2 : never m c = true) : kd req m c ls = (1, 0, 0) := by unfold kd; rw [h1, h2]; rfl
theorem kd_else (req : Bool) (m : List UInt8) (c : Int) (ls : List Fld) (h : (!req && never m c) = false) : kd req m c ls =
    if (!(vals ls teN).isEmpty) = true then (if (!(vals ls clN).isEmpty || (lower (jn (vals ls teN)) != chkN)) = true then (0, 0, 10) else (3, 0, 0))
    else if (!(vals ls clN).isEmpty) = true then kdL (jn (vals ls clN)) else if req = true then (1, 0, 0) else (4, 0, 0) := by unfold kd; rw [h]; rfl

set_option maxHeartbeats 2000000 in
set_option maxRecDepth 100000 in
/-- Behind the two fields that were looked up. -/
theorem kind_go (req : Bool) (m : ByteArray) (c : Int) (v : Value) (ls : List Fld) (x y z : Int) (h : kd req m.data.toList c ls = (x, y, z)) (w : World) (hf : Fl w v ls) (hl : Wide ls)
    (hj : ∀ s, (jn (vals ls s)).length ≤ 140737488351232) (hT : STabs w) :
    Calls Tryz.prog 19 #[.bool req, .string m, .int .i64 c, v] w fun e w' => e = .returned (.tuple #[.int .i64 x, .int .i64 y, .int .i64 z]) ∧ Below w.heap.size w w' := by
  have HF : Hid (Fl w v ls) := hf
  have HL : Hid (Wide ls) := hl
  have HT : Hid (STabs w) := hT
  have HJ : Hid (∀ s, (jn (vals ls s)).length ≤ 140737488351232) := hj
  clear hf hl hT hj
  cases hn : (!req && never m.data.toList c)
  · rw [kd_else _ _ _ _ hn] at h
    obtain ⟨t1, ht1⟩ : ∃ t : ByteArray, t.data.toList = jn (vals ls teN) := ⟨⟨(jn (vals ls teN)).toArray⟩, rfl⟩
    obtain ⟨t2, ht2⟩ : ∃ t : ByteArray, t.data.toList = jn (vals ls clN) := ⟨⟨(jn (vals ls clN)).toArray⟩, rfl⟩
    obtain ⟨t3, ht3⟩ : ∃ t : ByteArray, t.data.toList = lower t1.data.toList := ⟨⟨(lower t1.data.toList).toArray⟩, rfl⟩
    obtain ⟨b1, hb1⟩ : ∃ b : Bool, b = !(vals ls teN).isEmpty := ⟨_, rfl⟩
    obtain ⟨b2, hb2⟩ : ∃ b : Bool, b = !(vals ls clN).isEmpty := ⟨_, rfl⟩
    have H1 : Hid (t1.data.toList = jn (vals ls teN)) := ht1
    have H2 : Hid (t2.data.toList = jn (vals ls clN)) := ht2
    have H3 : Hid (t3.data.toList = lower t1.data.toList) := ht3
    have B1 : Hid (b1 = !(vals ls teN).isEmpty) := hb1
    have B2 : Hid (b2 = !(vals ls clN).isEmpty) := hb2
    have Z1 : Hid (t1.size ≤ 140737488351232) := by show _ ≤ _; rw [← size_list, ht1]; exact HJ.out _
    have Z2 : Hid (t2.size ≤ 140737488351232) := by show _ ≤ _; rw [← size_list, ht2]; exact HJ.out _
    have hz : (t3.toList != [99, 104, 117, 110, 107, 101, 100]) = (lower (jn (vals ls teN)) != chkN) := by rw [ByteArray.toList_eq, ht3, ht1]; rfl
    rw [← hb1, ← hb2, ← hz, ← ht2] at h
    have HH : Hid ((if b1 = true then (if (b2 || (t3.toList != [99, 104, 117, 110, 107, 101, 100])) = true then (0, 0, 10) else (3, 0, 0)) else if b2 = true then kdL t2.data.toList else if req = true then (1, 0, 0) else (4, 0, 0)) = ((x, y, z) : Int × Int × Int)) := h
    have HN : Hid ((!req && never m.data.toList c) = false) := hn
    have hnr : req = false → never m.data.toList c = false := by intro e; rw [e] at hn; simpa using hn
    have HR : Hid (req = false → never m.data.toList c = false) := hnr
    clear h ht1 ht2 ht3 hb1 hb2 hz hn hnr
    cases req
    · have HV := HR.out rfl
      have HVV : Hid (never m.data.toList c = false) := HV
      clear HV
      go_enter Tryz.func19, Tryz.ntmps19
      go_wp2_with fail
      refine (neverHas_any _ _ _).mono ?_
      rintro e w0 ⟨rfl, rfl⟩
      rw [HVV.out]
      go_wp2_with fail
      refine (get_at v ls _ t1 b1 H1.out B1.out _ HF.out HL.out (by decide) (by have := Z1.out; omega)).mono ?_
      rintro e w1 ⟨rfl, hw1⟩
      go_wp2_with fail
      refine (get_at v ls _ t2 b2 H2.out B2.out _ (HF.out.below hw1) HL.out (by decide) (by have := Z2.out; omega)).mono ?_
      rintro e w2 ⟨rfl, hw2⟩
      have hw := hw1.trans (hw2.mono hw1.size)
      clear hw1 hw2
      cases b1
      · cases b2
        · go_wp2_with fail
          go_ret3
          exact ⟨ret_3i HH.out, hw⟩
        · go_wp2_with fail
          refine (kindL_at t2 x y z HH.out _ (HT.out.below hw)).mono ?_
          rintro e w3 ⟨rfl, hw3⟩
          have hw' := hw.trans (hw3.mono hw.size)
          clear hw hw3
          go_wp2_with fail
          go_ret3
          exact ⟨rfl, hw'⟩
      · cases b2
        · cases hc : (t3.toList == [99, 104, 117, 110, 107, 101, 100])
          · have HX : Hid (((0, 0, 10) : Int × Int × Int) = (x, y, z)) := by have := HH.out; rw [bne, hc] at this; exact this
            go_wp2_with fail
            refine (lower_at t1 t3 H3.out _ Z1.out).mono ?_
            rintro e w3 ⟨rfl, hw3⟩
            have hw' := hw.trans (hw3.mono hw.size)
            clear hw hw3
            go_wp2_with fail
            go_ret3
            exact ⟨ret_3i HX.out, hw'⟩
          · have HX : Hid (((3, 0, 0) : Int × Int × Int) = (x, y, z)) := by have := HH.out; rw [bne, hc] at this; exact this
            go_wp2_with fail
            refine (lower_at t1 t3 H3.out _ Z1.out).mono ?_
            rintro e w3 ⟨rfl, hw3⟩
            have hw' := hw.trans (hw3.mono hw.size)
            clear hw hw3
            go_wp2_with fail
            go_ret3
            exact ⟨ret_3i HX.out, hw'⟩
        · go_wp2_with fail
          go_ret3
          exact ⟨ret_3i HH.out, hw⟩
    · go_enter Tryz.func19, Tryz.ntmps19
      go_wp2_with fail
      refine (get_at v ls _ t1 b1 H1.out B1.out _ HF.out HL.out (by decide) (by have := Z1.out; omega)).mono ?_
      rintro e w1 ⟨rfl, hw1⟩
      go_wp2_with fail
      refine (get_at v ls _ t2 b2 H2.out B2.out _ (HF.out.below hw1) HL.out (by decide) (by have := Z2.out; omega)).mono ?_
      rintro e w2 ⟨rfl, hw2⟩
      have hw := hw1.trans (hw2.mono hw1.size)
      clear hw1 hw2
      cases b1
      · cases b2
        · go_wp2_with fail
          go_ret3
          exact ⟨ret_3i HH.out, hw⟩
        · go_wp2_with fail
          refine (kindL_at t2 x y z HH.out _ (HT.out.below hw)).mono ?_
          rintro e w3 ⟨rfl, hw3⟩
          have hw' := hw.trans (hw3.mono hw.size)
          clear hw hw3
          go_wp2_with fail
          go_ret3
          exact ⟨rfl, hw'⟩
      · cases b2
        · cases hc : (t3.toList == [99, 104, 117, 110, 107, 101, 100])
          · have HX : Hid (((0, 0, 10) : Int × Int × Int) = (x, y, z)) := by have := HH.out; rw [bne, hc] at this; exact this
            go_wp2_with fail
            refine (lower_at t1 t3 H3.out _ Z1.out).mono ?_
            rintro e w3 ⟨rfl, hw3⟩
            have hw' := hw.trans (hw3.mono hw.size)
            clear hw hw3
            go_wp2_with fail
            go_ret3
            exact ⟨ret_3i HX.out, hw'⟩
          · have HX : Hid (((3, 0, 0) : Int × Int × Int) = (x, y, z)) := by have := HH.out; rw [bne, hc] at this; exact this
            go_wp2_with fail
            refine (lower_at t1 t3 H3.out _ Z1.out).mono ?_
            rintro e w3 ⟨rfl, hw3⟩
            have hw' := hw.trans (hw3.mono hw.size)
            clear hw hw3
            go_wp2_with fail
            go_ret3
            exact ⟨ret_3i HX.out, hw'⟩
        · go_wp2_with fail
          go_ret3
          exact ⟨ret_3i HH.out, hw⟩
  · have hr : req = false := by cases req <;> simp_all
    have hv : never m.data.toList c = true := by rw [hr] at hn; simpa using hn
    rw [kd_never _ _ _ _ hr hv] at h
    have HX : Hid (((1, 0, 0) : Int × Int × Int) = (x, y, z)) := h
    have HV : Hid (never m.data.toList c = true) := hv
    subst hr
    clear h hv hn
    go_enter Tryz.func19, Tryz.ntmps19
    go_wp2_with fail
    refine (neverHas_any _ _ _).mono ?_
    rintro e w0 ⟨rfl, rfl⟩
    rw [HV.out]
    go_wp2_with fail
    go_ret3
    exact ⟨ret_3i HX.out, Below.refl _ _⟩
end Go.Proofs.YtipfjpihciiikaaGreatDoor

/-
  A list of fields of bulk at most 1048576 fits in the memory that Go's limits allow; no program is named here.
-/
namespace Go.Proofs.YtipfjpihciiikaaGreatDoor
open Go.RowKit

theorem wide_bulk (ls : List Fld) (h : bulkF ls ≤ 1048576) : Wide ls := by
  refine ⟨fun x hx => ?_, ?_⟩
  · have := bulk_most ls x hx; omega
  · have := bulk_len ls; omega
end Go.Proofs.YtipfjpihciiikaaGreatDoor

/-
  What Kind of package body computes of fields of bulk at most 1048576, and what shapes its answers have.
-/
namespace Go.Proofs.YtipfjpihciiikaaGreatDoor
open Go.RowKit

theorem kindU_at (req : Bool) (m : ByteArray) (c : Int) (v : Value) (ls : List Fld) (x y z : Int) (h : kd req m.data.toList c ls = (x, y, z)) (w : World) (hf : Fl w v ls) (hl : bulkF ls ≤ 1048576) (hT : STabs w) :
    Calls Tryz.prog 19 #[.bool req, .string m, .int .i64 c, v] w fun e w' => e = .returned (.tuple #[.int .i64 x, .int .i64 y, .int .i64 z]) ∧ Below w.heap.size w w' :=
  kind_go req m c v ls x y z h w hf (wide_bulk ls hl) (fun s => Nat.le_trans (Nat.le_trans (jn_bulk ls s) hl) (by decide)) hT

theorem kdL_shape (t : List UInt8) : (∃ n, kdL t = (2, n, 0) ∧ 0 ≤ n ∧ n ≤ 5000) ∨ ∃ e, kdL t = (0, 0, e) ∧ (e = 10 ∨ e = 2) := by
  unfold kdL
  split
  · cases (splitS t).1 with
    | nil => exact Or.inr ⟨10, rfl, Or.inl rfl⟩
    | cons p r =>
      cases ha : r.all (· == p)
      · exact Or.inr ⟨10, kdP_diff p r ha, Or.inl rfl⟩
      · rw [kdP_same p r ha]
        cases h2 : (rdLn p).2
        · exact Or.inr ⟨10, rfl, Or.inl rfl⟩
        · by_cases h3 : 5000 < (rdLn p).1
          · exact Or.inr ⟨2, by simp only [if_true]; rw [if_pos h3], Or.inr rfl⟩
          · exact Or.inl ⟨(rdLn p).1, by simp only [if_true]; rw [if_neg h3], (rdLn_bd p h2).1, by omega⟩
  · exact Or.inr ⟨10, rfl, Or.inl rfl⟩
theorem kd_shape (req : Bool) (m : List UInt8) (c : Int) (ls : List Fld) : (∃ e, kd req m c ls = (0, 0, e) ∧ e ≠ 0) ∨ kd req m c ls = (1, 0, 0) ∨ kd req m c ls = (3, 0, 0) ∨ (kd req m c ls = (4, 0, 0) ∧ req = false) ∨ ∃ n, kd req m c ls = (2, n, 0) ∧ 0 ≤ n ∧ n ≤ 5000 := by
  unfold kd
  split
  · exact Or.inr (Or.inl rfl)
  · split
    · split
      · exact Or.inl ⟨10, rfl, by decide⟩
      · exact Or.inr (Or.inr (Or.inl rfl))
    · split
      · rcases kdL_shape (jn (vals ls clN)) with ⟨n, h1, h2⟩ | ⟨e, h1, h2⟩
        · exact Or.inr (Or.inr (Or.inr (Or.inr ⟨n, h1, h2⟩)))
        · exact Or.inl ⟨e, h1, by omega⟩
      · split
        · exact Or.inr (Or.inl rfl)
        · rename_i h
          exact Or.inr (Or.inr (Or.inr (Or.inl ⟨rfl, by simpa using h⟩)))
end Go.Proofs.YtipfjpihciiikaaGreatDoor

/-
  What body.Kind's plain answer may be, in the words of messages; no program is named here.
-/
namespace Go.Proofs.YtipfjpihciiikaaGreatDoor
open Go.RowKit

theorem kd_ok (req : Bool) (m : List UInt8) (c : Int) : KdOk (kd req m c) := fun ls => by
  rcases kd_shape req m c ls with h | h | h | ⟨h, _⟩ | h
  · exact .inl h
  · exact .inr (.inl h)
  · exact .inr (.inr (.inl h))
  · exact .inr (.inr (.inr (.inl h)))
  · exact .inr (.inr (.inr (.inr h)))
theorem kd_four (m : List UInt8) (c : Int) (ls : List Fld) : (kd true m c ls).1 ≠ 4 := by
  rcases kd_shape true m c ls with ⟨e, h, _⟩ | h | h | ⟨_, h⟩ | ⟨n, h, _⟩
  · rw [h]; simp
  · rw [h]; simp
  · rw [h]; simp
  · cases h
  · rw [h]; simp
end Go.Proofs.YtipfjpihciiikaaGreatDoor

/-
  What strconv.FormatInt computes in base 16 of numbers below 65536; the listed table of package math/bits holds what its text lays.
-/
namespace Go.Proofs.YtipfjpihciiikaaGreatDoor
open Go.RowKit Go.Lib

def bruijn : List Int := [0, 1, 56, 2, 57, 49, 28, 3, 61, 58, 42, 50, 38, 29, 17, 4, 62, 47, 59, 36, 45, 43, 51, 22, 53, 39, 33, 30, 24, 18, 12, 5, 63, 55, 48, 27, 60, 41, 37, 16, 46, 35, 44, 21, 52, 32, 23, 11, 54, 26, 40, 15, 34, 20, 31, 10, 25, 14, 19, 9, 13, 8, 7, 6]
/-- The one place of the table that base 16 reads. -/
def HTab (w : World) : Prop := w.cell? ⟨7, 15, none⟩ = some (.int .u8 4)
theorem HTab.below {w w' : World} (h : HTab w) (hb : Below w.heap.size w w') : HTab w' := cell_keep hb h

theorem htab_of {l : List (String × DataW Unit)} (w : World) (h : laidMet Tryz.prog l w) (h1 : ("math/bits.deBruijn64tab", Rows.laid_math_bits_deBruijn64tab) ∈ l) : HTab w := by
  have r : VarReads Tryz.prog w "math/bits.deBruijn64tab" Rows.laid_math_bits_deBruijn64tab := laidMet.reads h h1
  rw [show (Rows.laid_math_bits_deBruijn64tab : DataW Unit) = tabData .u8 bruijn from by kernel_rfl] at r
  have hg : Tryz.prog.globalNamed "math/bits.deBruijn64tab" = some 7 := by kernel_rfl
  have ht : TabIs Tryz.prog w "math/bits.deBruijn64tab" .u8 bruijn := by
    obtain ⟨g', t', cs, fuel, p, hg', ht', hv, hd⟩ := r
    obtain rfl := Option.some.inj (hg.symm.trans hg')
    obtain rfl := Option.some.inj ((show (Tryz.prog.globals[7]?).map (·.type) = some 194 by kernel_rfl).symm.trans ht')
    unfold TabIs
    rw [hv, ← cells_of_tab Tryz.underlying194 Tryz.underlying5 (by kernel_rfl) (by kernel_rfl) hd]
  exact ht.cell hg 15 (by decide)
set_option maxRecDepth 100000 in
theorem tz64_at (w : World) (h : HTab w) : Calls Tryz.prog 182 #[.int .u64 16] w fun e w' => e = .returned (.int .i64 4) ∧ w' = w := by
  unfold HTab at h
  have e1 : bits BinOp.and IntKind.u64 16 (IntKind.u64.wrap (-16)) = 16 := by decide +kernel
  have e2 : IntKind.u64.wrap 4573923408821661840 = 4573923408821661840 := by decide +kernel
  go_enter Tryz.func182, Tryz.ntmps182
  go_wp2
  go_ret
  exact ⟨rfl, rfl⟩
set_option maxRecDepth 100000 in
theorem tz_at (w : World) (h : HTab w) : Calls Tryz.prog 172 #[.int .u64 16] w fun e w' => e = .returned (.int .i64 4) ∧ w' = w := by
  go_enter Tryz.func172, Tryz.ntmps172
  go_wp2_with fail
  refine (tz64_at _ h).mono ?_
  rintro e w' ⟨rfl, rfl⟩
  go_wp2_with fail
  go_ret
  exact ⟨rfl, rfl⟩
set_option maxRecDepth 100000 in
theorem pow2_at (w : World) : Calls Tryz.prog 171 #[.int .i64 16] w fun e w' => e = .returned (.bool true) ∧ w' = w := by
  go_enter Tryz.func171, Tryz.ntmps171
  go_wp2
  go_ret
  exact ⟨rfl, rfl⟩
theorem hx_idx (d : Nat) (h : d < 16) (z : Int) (hz : z = (d : Int)) (k : IntKind) (w : World) : (Instr.index 9 (.string Lib.digits36) (.int k z)).run Tryz.prog w = .ok (.int .u8 ((hx d).toNat : Int)) w := by
  subst hz
  rw [run_index_string w 9 Lib.digits36 k _ Tryz.underlying9, dif_pos ⟨by omega, by rw [Lib.digits36_size]; omega⟩]
  have e : ((d : Int)).toNat = d := by omega
  have key : ∀ n : Fin 16, Lib.digits36.data.toList.getD n.val 0 = hx n.val := by decide +kernel
  simp only [e]
  rw [Lib.getD_at Lib.digits36 d (by rw [Lib.digits36_size]; omega)]
  exact congrArg (fun x : UInt8 => Result.ok (Value.int .u8 (x.toNat : Int)) w) (key ⟨d, h⟩)
theorem cells_in {w : World} {g i : Nat} {cs : Array Value} {t : TypeId} (h : w.heap[g]? = some (.cells cs t (0, 0))) : w.cell? ⟨g, i, none⟩ = cs[i]? ∧ w.frozen? ⟨g, i, none⟩ = false := by
  constructor
  · simp [World.cell?, h]
  · simp [World.frozen?, h]
theorem and15 (v : Nat) (h : v < 65536) : bits BinOp.and IntKind.u64 (v : Int) 15 = ((v % 16 : Nat) : Int) := by
  have h1 := u64_and_nat v 15 (by omega) (by omega)
  have h2 : v &&& 15 = v % 16 := Nat.and_two_pow_sub_one_eq_mod v 4
  rw [h2] at h1; exact h1
set_option maxHeartbeats 4000000 in
set_option maxRecDepth 100000 in
theorem fmtBits_at (u : Nat) (hu : u < 65536) (w : World) (h : HTab w) :
    Calls Tryz.prog 149 #[.slice none 0 0, .int .u64 (u : Int), .int .i64 16, .bool false, .bool false] w fun e w' => e = .returned (.tuple #[.slice none 0 0, .string ⟨(hexd u).toArray⟩]) ∧ Below w.heap.size w w' := by
  have HT : Hid (HTab w) := h
  clear h
  go_enter Tryz.func149, Tryz.ntmps149
  go_name_bytes_deep 39 MS hMS
  clear hMS
  go_name_bytes_deep 30 DG hDG
  have eDG : DG = Lib.digits36 := by rw [← hDG]; decide +kernel
  subst eDG
  clear hDG
  go_wp2_with fail
  refine (pow2_at _).mono ?_
  rintro e w1 ⟨rfl, rfl⟩
  go_wp2_with fail
  have hw1 : Below w.heap.size w (w.alloc (.cells Tryz.zeroCells174 174)) := (Below.refl _ w).alloc (Nat.le_refl _) _
  refine (tz_at _ (HT.out.below hw1)).mono ?_
  rintro e w2 ⟨rfl, rfl⟩
  have mixed : Tryz.prog.follows Departure.mixedOrders = true := by kernel_rfl
  have hal : Tryz.prog.arrayLen 174 = 65 := by kernel_rfl
  go_wp2_with fail
  go_loopw [1, 13] (fun vu vi wr => ∃ (k v : Nat) (D : List UInt8) (cs : Array Value), vu = .int .u64 (v : Int) ∧ vi = .int .i64 ((k : Int) + 1) ∧ k + D.length = 64 ∧ hexd u = hexd v ++ D ∧ v < 65536 ∧ wr.heap[w.heap.size]? = some (.cells cs 174 (0, 0)) ∧ cs.size = 65 ∧ (∀ (j : Nat) (h : j < D.length), cs[k + 1 + j]? = some (.int .u8 ((D[j]).toNat : Int))) ∧ Below w.heap.size w wr) (fun vu _ _ => (RowKit.intOf vu).toNat)
  case atStart => exact ⟨64, u, [], _, rfl, rfl, rfl, by simp, hu, heap_alloc_new _ _, by kernel_rfl, fun j h => absurd h (by simp), hw1⟩
  case round =>
    obtain ⟨k, v, D, cs, rfl, rfl, hkD, hD, hv, hg, hcs, hcd, hw⟩ := hrel
    rename World => wr
    have HD : Hid (hexd u = hexd v ++ D) := hD
    have HG : Hid (wr.heap[w.heap.size]? = some (.cells cs 174 (0, 0))) := hg
    have HC : Hid (∀ (j : Nat) (h : j < D.length), cs[k + 1 + j]? = some (.int .u8 ((D[j]).toNat : Int))) := hcd
    have hlen := hexd_len u hu
    have hl1 := hexd_pos v
    have hl2 := congrArg List.length hD
    rw [List.length_append] at hl2
    have hk64 : k ≤ 64 := by omega
    have hk61 : 61 ≤ k := by omega
    obtain ⟨x0, hx0⟩ : ∃ x, cs[k]? = some x := ⟨cs[k]'(by omega), Array.getElem?_eq_getElem (by omega)⟩
    have hcell : wr.cell? ⟨w.heap.size, k, none⟩ = some x0 := by rw [(cells_in hg).1, hx0]
    have hfr : wr.frozen? ⟨w.heap.size, k, none⟩ = false := (cells_in hg).2
    clear hD hg hcd hlen hl1 hl2 hx0
    by_cases h16 : v < 16
    · have hix : ∀ w, (Instr.index 9 (.string Lib.digits36) (.int .u64 (v : Int))).run Tryz.prog w = .ok (.int .u8 ((hx v).toNat : Int)) w := fun w => hx_idx v h16 _ rfl _ w
      have hi16 : ¬ (16 : Int) ≤ (v : Int) := by omega
      have hsl : ∀ W, (Instr.sliceAt 174 (.pointer (some ⟨w.heap.size, 0, none⟩)) (some (.int .i64 (k : Int))) none none).run Tryz.prog W = .ok (.slice (some ⟨w.heap.size, k, none⟩) (hexd u).length (65 - k)) W := fun W => by
        have hlu : (hexd u).length = 65 - k := by rw [HD.out, hexd_one v h16, List.length_append, List.length_singleton]; omega
        rw [run_sliceAt_array_l W 174 ⟨w.heap.size, 0, none⟩ (by simp [Program.arrayLen, Program.elem, Tryz.underlying174]) .i64 (k : Int) (by omega) (by rw [hal]; omega), hal, hlu]
        go_simp
        omega
      have hcv : (convert 94 9 (.slice (some ⟨w.heap.size, k, none⟩) (hexd u).length (65 - k))).run Tryz.prog (wr.setCell ⟨w.heap.size, k, none⟩ (.int .u8 ((hx v).toNat : Int))) = .ok (.string ⟨(hexd u).toArray⟩) (wr.setCell ⟨w.heap.size, k, none⟩ (.int .u8 ((hx v).toNat : Int))) := by
        refine run_convert_bytes_back (P := Tryz.prog) _ 94 9 5 ⟨w.heap.size, k, none⟩ (65 - k) (hexd u) Tryz.underlying94 Tryz.underlying5 Tryz.underlying9 (fun j hj => ?_)
        rw [Lib.add_plain, (cells_in (heap_setCell_same wr w.heap.size k cs _ (.int .u8 ((hx v).toNat : Int)) HG.out)).1]
        have e : hexd u = hx v :: D := by rw [HD.out, hexd_one v h16]; rfl
        cases j with
        | zero =>
          simp only [e, List.getElem_cons_zero, Nat.add_zero]
          rw [Array.getElem?_setIfInBounds_self_of_lt (by omega)]
        | succ i =>
          have hi : i < D.length := by rw [e] at hj; simpa using hj
          simp only [e, List.getElem_cons_succ]
          rw [Array.getElem?_setIfInBounds_ne (by omega), show k + (i + 1) = k + 1 + i by omega]
          exact HC.out i hi
      have hwe := hw.setCell (p := ⟨w.heap.size, k, none⟩) (Nat.le_refl _) (.int .u8 ((hx v).toNat : Int))
      clear hal
      go_wp2_with fail
      go_ret2
      exact ⟨rfl, hwe⟩
    · have hix : ∀ w, (Instr.index 9 (.string Lib.digits36) (.int .u64 (bits BinOp.and IntKind.u64 (v : Int) 15))).run Tryz.prog w = .ok (.int .u8 ((hx (v % 16)).toNat : Int)) w := fun w => hx_idx (v % 16) (by omega) _ (and15 v hv) _ w
      have hi16 : (16 : Int) ≤ (v : Int) := by omega
      go_wp2_with fail
      go_roundw
      case rel =>
        refine ⟨k - 1, v / 16, hx (v % 16) :: D, cs.setIfInBounds k (.int .u8 ((hx (v % 16)).toNat : Int)), by go_num, by go_num, by rw [List.length_cons]; omega, by rw [HD.out, hexd_step v h16, List.append_assoc]; rfl, by omega, heap_setCell_same wr w.heap.size k cs _ _ HG.out, by rw [Array.size_setIfInBounds]; exact hcs, fun j hj => ?_, hw.setCell (p := ⟨w.heap.size, k, none⟩) (Nat.le_refl _) _⟩
        cases j with
        | zero =>
          rw [show k - 1 + 1 + 0 = k by omega, Array.getElem?_setIfInBounds_self_of_lt (by omega)]; rfl
        | succ i =>
          have hi : i < D.length := by simpa using hj
          rw [Array.getElem?_setIfInBounds_ne (by omega), show k - 1 + 1 + (i + 1) = k + 1 + i by omega]
          exact HC.out i hi
      case measure => simp [RowKit.intOf]; omega
set_option maxHeartbeats 1000000 in
set_option maxRecDepth 100000 in
theorem fmtI_at (u : Nat) (hu : u < 65536) (w : World) (h : HTab w) :
    Calls Tryz.prog 127 #[.int .i64 (u : Int), .int .i64 16] w fun e w' => e = .returned (.string ⟨(hexd u).toArray⟩) ∧ Below w.heap.size w w' := by
  have HT : Hid (HTab w) := h
  clear h
  go_enter Tryz.func127, Tryz.ntmps127
  go_wp2_with fail
  refine (fmtBits_at u hu _ HT.out).mono ?_
  rintro e w1 ⟨rfl, hb⟩
  go_wp2_with fail
  go_ret
  exact ⟨rfl, hb⟩
set_option maxHeartbeats 1000000 in
set_option maxRecDepth 100000 in
theorem fmtInt_at (u : Nat) (hu : u < 65536) (w : World) (h : HTab w) :
    Calls Tryz.prog 134 #[.int .i64 (u : Int), .int .i64 16] w fun e w' => e = .returned (.string ⟨(hexd u).toArray⟩) ∧ Below w.heap.size w w' := by
  have HT : Hid (HTab w) := h
  clear h
  go_enter Tryz.func134, Tryz.ntmps134
  go_wp2_with fail
  refine (fmtI_at u hu _ HT.out).mono ?_
  rintro e w1 ⟨rfl, hb⟩
  go_wp2_with fail
  go_ret
  exact ⟨rfl, hb⟩
end Go.Proofs.YtipfjpihciiikaaGreatDoor

/-
  What IsToken and inToken compute, each a contract over the program's text; no condition but that a string is no longer than Go allows.
-/
namespace Go.Proofs.YtipfjpihciiikaaGreatDoor
open Go.RowKit

def signs : List UInt8 := [33, 35, 36, 37, 38, 39, 42, 43, 45, 46, 94, 95, 96, 124, 126]

theorem isTok_a (c : UInt8) (h : 97 ≤ (c.toNat : Int) ∧ (c.toNat : Int) ≤ 122) : isTok c = true := by
  unfold isTok; simp [UInt8.le_iff_toNat_le]; omega
theorem isTok_b (c : UInt8) (h : 65 ≤ (c.toNat : Int) ∧ (c.toNat : Int) ≤ 90) : isTok c = true := by
  unfold isTok; simp [UInt8.le_iff_toNat_le]; omega
theorem isTok_c (c : UInt8) (h : 48 ≤ (c.toNat : Int) ∧ (c.toNat : Int) ≤ 57) : isTok c = true := by
  unfold isTok; simp [UInt8.le_iff_toNat_le]; omega
theorem isTok_d (c : UInt8) (ha : ¬ (97 ≤ (c.toNat : Int) ∧ (c.toNat : Int) ≤ 122)) (hb : ¬ (65 ≤ (c.toNat : Int) ∧ (c.toNat : Int) ≤ 90)) (hc : ¬ (48 ≤ (c.toNat : Int) ∧ (c.toNat : Int) ≤ 57)) :
    isTok c = decide (0 ≤ Lib.indexByte [33, 35, 36, 37, 38, 39, 42, 43, 45, 46, 94, 95, 96, 124, 126] c) := by
  rw [← Lib.contains_iff_indexByte]
  have a : (97 ≤ c && c ≤ 122) = false := by rw [Bool.eq_false_iff]; simp [UInt8.le_iff_toNat_le]; omega
  have b : (65 ≤ c && c ≤ 90) = false := by rw [Bool.eq_false_iff]; simp [UInt8.le_iff_toNat_le]; omega
  have d : (48 ≤ c && c ≤ 57) = false := by rw [Bool.eq_false_iff]; simp [UInt8.le_iff_toNat_le]; omega
  unfold isTok
  rw [a, b, d]; rfl

set_option maxHeartbeats 400000 in
set_option maxRecDepth 100000 in
theorem inToken_any (c : UInt8) (w : World) :
    Calls Tryz.prog 105 #[.int .u8 (c.toNat : Int)] w fun e w' => e = .returned (.bool (isTok c)) ∧ w' = w := by
  have hlt : (c.toNat : Int) < 256 := by have := c.toNat_lt; omega
  have hge : 0 ≤ (c.toNat : Int) := by omega
  rcases (show (c.toNat : Int) < 48 ∨ (48 ≤ (c.toNat : Int) ∧ (c.toNat : Int) ≤ 57) ∨ (58 ≤ (c.toNat : Int) ∧ (c.toNat : Int) ≤ 64) ∨ (65 ≤ (c.toNat : Int) ∧ (c.toNat : Int) ≤ 90) ∨ (91 ≤ (c.toNat : Int) ∧ (c.toNat : Int) ≤ 96) ∨ (97 ≤ (c.toNat : Int) ∧ (c.toNat : Int) ≤ 122) ∨ 123 ≤ (c.toNat : Int) from by omega) with h | ⟨h, h'⟩ | ⟨h, h'⟩ | ⟨h, h'⟩ | ⟨h, h'⟩ | ⟨h, h'⟩ | h
  all_goals first
    | rw [isTok_a c (by omega)]
    | rw [isTok_b c (by omega)]
    | rw [isTok_c c (by omega)]
    | rw [isTok_d c (by omega) (by omega) (by omega)]
  all_goals
    go_enter Tryz.func105, Tryz.ntmps105
    go_wp2_with (go_at_call 113; refine (Tryz.strings_IndexByte _ _ _).mono ?_; rintro e w' ⟨rfl, rfl⟩)
    go_ret
    exact ⟨rfl, rfl⟩

set_option maxHeartbeats 400000 in
set_option maxRecDepth 100000 in
theorem isToken_any (s : ByteArray) (w : World) (hs : s.size ≤ maxLen) :
    Calls Tryz.prog 72 #[.string s] w fun e w' => e = .returned (.bool (token s.data.toList)) ∧ w' = w := by
  unfold maxLen at hs
  go_enter Tryz.func72, Tryz.ntmps72
  go_wp2_with fail
  go_loop [6] (fun i => ∃ k : Nat, k ≤ s.size ∧ i = .int .i64 k ∧ (s.data.toList.take k).all isTok = true) (fun i => s.size - (intOf i).toNat)
  case atStart => exact ⟨0, Nat.zero_le _, rfl, rfl⟩
  case round =>
    obtain ⟨k, hk, rfl, hall⟩ := hrel
    have HA : Hid ((s.data.toList.take k).all isTok = true) := hall
    clear hall
    by_cases hlt : k < s.size
    · cases ht : isTok s[k]
      · have HT : Hid (isTok s[k] = false) := ht
        clear ht
        go_wp2_with fail
        refine (inToken_any _ _).mono ?_
        rintro e w' ⟨rfl, rfl⟩
        rw [HT.out]
        go_wp2_with fail
        go_ret
        refine ⟨ret_bool ?_, rfl⟩
        rw [token, all_false s isTok k hlt HT.out, Bool.and_false]
      · have HT : Hid (isTok s[k] = true) := ht
        clear ht
        go_wp2_with fail
        refine (inToken_any _ _).mono ?_
        rintro e w' ⟨rfl, rfl⟩
        rw [HT.out]
        go_wp2_with fail
        go_round
        case rel => exact ⟨k + 1, by omega, by go_num, by rw [take_snoc s k hlt, List.all_append, HA.out]; simp [HT.out]⟩
        case measure => simp [intOf]; omega
    · obtain rfl : k = s.size := by omega
      go_wp2_with fail
      go_ret
      refine ⟨ret_bool ?_, rfl⟩
      have h := HA.out
      rw [take_all] at h
      rw [token, h, ByteArray.toList_eq, Bool.and_true]
end Go.Proofs.YtipfjpihciiikaaGreatDoor

/-
  What isPlain of package token computes.
-/
namespace Go.Proofs.YtipfjpihciiikaaGreatDoor
open Go.RowKit

set_option maxHeartbeats 400000 in
set_option maxRecDepth 100000 in
theorem isPlain_any (c : UInt8) (w : World) :
    Calls Tryz.prog 126 #[.int .u8 (c.toNat : Int)] w fun e w' => e = .returned (.bool (plainB c)) ∧ w' = w := by
  have hlt : (c.toNat : Int) < 256 := by have := c.toNat_lt; omega
  rw [plainB_iff]
  rcases (show (c.toNat : Int) < 9 ∨ (c.toNat : Int) = 9 ∨ (10 ≤ (c.toNat : Int) ∧ (c.toNat : Int) < 32) ∨ (32 ≤ (c.toNat : Int) ∧ (c.toNat : Int) ≤ 126) ∨ 127 ≤ (c.toNat : Int) from by omega) with h | h | ⟨h, h'⟩ | ⟨h, h'⟩ | h
  · rw [decide_eq_false (by omega)]
    go_enter Tryz.func126, Tryz.ntmps126
    go_wp2
    go_ret
    exact ⟨ret_bool (by simp; omega), rfl⟩
  · rw [decide_eq_true (by omega)]
    go_enter Tryz.func126, Tryz.ntmps126
    go_wp2
    go_ret
    exact ⟨rfl, rfl⟩
  · rw [decide_eq_false (by omega)]
    go_enter Tryz.func126, Tryz.ntmps126
    go_wp2
    go_ret
    exact ⟨ret_bool (by simp; omega), rfl⟩
  · rw [decide_eq_true (by omega)]
    go_enter Tryz.func126, Tryz.ntmps126
    go_wp2
    go_ret
    exact ⟨rfl, rfl⟩
  · rw [decide_eq_false (by omega)]
    go_enter Tryz.func126, Tryz.ntmps126
    go_wp2
    go_ret
    exact ⟨ret_bool (by simp; omega), rfl⟩
end Go.Proofs.YtipfjpihciiikaaGreatDoor

/-
  What IsPlain of package token computes; a string is no longer than Go allows.
-/
namespace Go.Proofs.YtipfjpihciiikaaGreatDoor
open Go.RowKit

set_option maxHeartbeats 400000 in
set_option maxRecDepth 100000 in
theorem isPlainS_any (s : ByteArray) (w : World) (hs : s.size ≤ maxLen) :
    Calls Tryz.prog 93 #[.string s] w fun e w' => e = .returned (.bool (allPlain s.data.toList)) ∧ w' = w := by
  unfold maxLen at hs
  go_enter Tryz.func93, Tryz.ntmps93
  go_wp2_with fail
  go_loop [6] (fun i => ∃ k : Nat, k ≤ s.size ∧ i = .int .i64 k ∧ allPlain (s.data.toList.take k) = true) (fun i => s.size - (intOf i).toNat)
  case atStart => exact ⟨0, Nat.zero_le _, rfl, rfl⟩
  case round =>
    obtain ⟨k, hk, rfl, hall⟩ := hrel
    have HA : Hid (allPlain (s.data.toList.take k) = true) := hall
    clear hall
    by_cases hlt : k < s.size
    · cases ht : plainB s[k]
      · have HT : Hid (plainB s[k] = false) := ht
        clear ht
        go_wp2_with fail
        refine (isPlain_any _ _).mono ?_
        rintro e w' ⟨rfl, rfl⟩
        rw [HT.out]
        go_wp2_with fail
        go_ret
        exact ⟨ret_bool (allPlain_dead s k hlt HT.out).symm, rfl⟩
      · have HT : Hid (plainB s[k] = true) := ht
        clear ht
        go_wp2_with fail
        refine (isPlain_any _ _).mono ?_
        rintro e w' ⟨rfl, rfl⟩
        rw [HT.out]
        go_wp2_with fail
        go_round
        case rel => exact ⟨k + 1, by omega, by go_num, by rw [take_snoc s k hlt]; exact allPlain_snoc _ _ HA.out HT.out⟩
        case measure => simp [intOf]; omega
    · obtain rfl : k = s.size := by omega
      go_wp2_with fail
      go_ret
      have h := HA.out
      rw [take_all] at h
      exact ⟨ret_bool h.symm, rfl⟩

theorem isPlainS_is (s : ByteArray) (b : Bool) (h : allPlain s.data.toList = b) (w : World) (hs : s.size ≤ maxLen) :
    Calls Tryz.prog 93 #[.string s] w fun e w' => e = .returned (.bool b) ∧ w' = w := by
  rw [← h]; exact isPlainS_any s w hs
end Go.Proofs.YtipfjpihciiikaaGreatDoor

/-
  What checkOne of package field computes; a string is no longer than Go allows.
-/
namespace Go.Proofs.YtipfjpihciiikaaGreatDoor
open Go.RowKit

set_option maxHeartbeats 1000000 in
set_option maxRecDepth 100000 in
theorem checkOne_any (n v : ByteArray) (w : World) (hn : n.size ≤ maxLen) (hv : v.size ≤ maxLen) :
    Calls Tryz.prog 106 #[.agg #[.string n, .string v]] w fun e w' => e = .returned (.int .i64 (chk1 (n.data.toList, v.data.toList))) ∧ Below w.heap.size w w' := by
  have HN : Hid (n.size ≤ maxLen) := hn
  have HV : Hid (v.size ≤ maxLen) := hv
  unfold maxLen at hn hv
  cases htk : token n.data.toList
  · have HC : Hid (chk1 (n.data.toList, v.data.toList) = 3) := chk1_tok _ htk
    have HT : Hid (token n.data.toList = false) := htk
    clear htk
    go_enter Tryz.func106, Tryz.ntmps106
    go_wp2_with fail
    refine (isToken_any _ _ HN.out).mono ?_
    rintro e w1 ⟨rfl, rfl⟩
    rw [HT.out]
    go_wp2_with fail
    go_ret
    exact ⟨ret_int HC.out.symm, (Below.refl _ w).alloc (Nat.le_refl _) _⟩
  · have HT : Hid (token n.data.toList = true) := htk
    clear htk
    by_cases h1 : 30 < (n.size : Int)
    · have HC : Hid (chk1 (n.data.toList, v.data.toList) = 2) := chk1_large _ HT.out (.inl (by rw [size_list]; omega))
      have hd : decide (30 < (n.size : Int)) = true := decide_eq_true h1
      go_enter Tryz.func106, Tryz.ntmps106
      go_wp2_with fail
      refine (isToken_any _ _ HN.out).mono ?_
      rintro e w1 ⟨rfl, rfl⟩
      rw [HT.out]
      go_wp2_with fail
      go_ret
      exact ⟨ret_int HC.out.symm, (Below.refl _ w).alloc (Nat.le_refl _) _⟩
    · have hd : decide (30 < (n.size : Int)) = false := decide_eq_false h1
      by_cases h2 : 1000 < (v.size : Int)
      · have HC : Hid (chk1 (n.data.toList, v.data.toList) = 2) := chk1_large _ HT.out (.inr (by rw [size_list]; omega))
        have hd2 : decide (1000 < (v.size : Int)) = true := decide_eq_true h2
        go_enter Tryz.func106, Tryz.ntmps106
        go_wp2_with fail
        refine (isToken_any _ _ HN.out).mono ?_
        rintro e w1 ⟨rfl, rfl⟩
        rw [HT.out]
        go_wp2_with fail
        go_ret
        exact ⟨ret_int HC.out.symm, (Below.refl _ w).alloc (Nat.le_refl _) _⟩
      · have hd2 : decide (1000 < (v.size : Int)) = false := decide_eq_false h2
        have HL : Hid (¬ (30 < (n.data.toList, v.data.toList).1.length ∨ 1000 < (n.data.toList, v.data.toList).2.length)) := by
          show ¬ (30 < n.data.toList.length ∨ 1000 < v.data.toList.length)
          rw [size_list, size_list]; omega
        cases hp : allPlain v.data.toList
        · have HP : Hid (allPlain v.data.toList = false) := hp
          have HC : Hid (chk1 (n.data.toList, v.data.toList) = 3) := chk1_bad _ HT.out HL.out (fun h => by rw [hp] at h; simp at h)
          clear hp
          go_enter Tryz.func106, Tryz.ntmps106
          go_wp2_with fail
          refine (isToken_any _ _ HN.out).mono ?_
          rintro e w1 ⟨rfl, rfl⟩
          rw [HT.out]
          go_wp2_with fail
          go_quiet (first | (go_at_call 93; exact Calls.quiet_of_same (isPlainS_is _ false HP.out _ HV.out)))
          go_wp2_with fail
          go_ret
          exact ⟨ret_int HC.out.symm, ((Below.refl _ w).alloc (Nat.le_refl _) _).trans (drewN_below _ _ _)⟩
        · have HP : Hid (allPlain v.data.toList = true) := hp
          clear hp
          obtain ⟨t, ht⟩ : ∃ t : ByteArray, t.data.toList = trimL v.data.toList := ⟨⟨(trimL v.data.toList).toArray⟩, rfl⟩
          have HTR : Hid (t.data.toList = trimL v.data.toList) := ht
          clear ht
          cases hq : (t.toList == v.toList)
          · have HC : Hid (chk1 (n.data.toList, v.data.toList) = 3) := chk1_bad _ HT.out HL.out (fun h => by
              have h2 : trimL v.data.toList = v.data.toList := h.2
              rw [ByteArray.toList_eq, ByteArray.toList_eq, HTR.out, h2] at hq
              simp at hq)
            go_enter Tryz.func106, Tryz.ntmps106
            go_wp2_with fail
            refine (isToken_any _ _ HN.out).mono ?_
            rintro e w1 ⟨rfl, rfl⟩
            rw [HT.out]
            go_wp2_with fail
            go_region_held3 (fun w' => w'.cell? ⟨w.heap.size, 1, none⟩ = some (.string v)) (go_keep) (first | (go_at_call 93; refine (isPlainS_any _ _ HV.out).mono ?_; rintro e w2 ⟨rfl, rfl⟩; rw [HP.out]) | (go_at_call 103; refine (trim_at _ t HTR.out _ (by omega)).mono ?_; rintro e w3 ⟨rfl, hb⟩; have hc3 : w3.cell? ⟨w.heap.size, 1, none⟩ = some (.string v) := (hb.cell (p := ⟨w.heap.size, 1, none⟩) (by simp)).trans (by simp)))
            all_goals
              go_wp2_with fail
              go_ret
              exact ⟨ret_int HC.out.symm, ((Below.refl _ w).alloc (Nat.le_refl _) _).drew.trans (hb.mono (by simp))⟩
          · have HC : Hid (chk1 (n.data.toList, v.data.toList) = 0) := chk1_ok _ HT.out HL.out ⟨HP.out, by
              rw [ByteArray.toList_eq, ByteArray.toList_eq, HTR.out] at hq
              simpa using hq⟩
            go_enter Tryz.func106, Tryz.ntmps106
            go_wp2_with fail
            refine (isToken_any _ _ HN.out).mono ?_
            rintro e w1 ⟨rfl, rfl⟩
            rw [HT.out]
            go_wp2_with fail
            go_region_held3 (fun w' => w'.cell? ⟨w.heap.size, 1, none⟩ = some (.string v)) (go_keep) (first | (go_at_call 93; refine (isPlainS_any _ _ HV.out).mono ?_; rintro e w2 ⟨rfl, rfl⟩; rw [HP.out]) | (go_at_call 103; refine (trim_at _ t HTR.out _ (by omega)).mono ?_; rintro e w3 ⟨rfl, hb⟩; have hc3 : w3.cell? ⟨w.heap.size, 1, none⟩ = some (.string v) := (hb.cell (p := ⟨w.heap.size, 1, none⟩) (by simp)).trans (by simp)))
            all_goals
              go_wp2_with fail
              go_ret
              exact ⟨ret_int HC.out.symm, ((Below.refl _ w).alloc (Nat.le_refl _) _).drew.trans (hb.mono (by simp))⟩
end Go.Proofs.YtipfjpihciiikaaGreatDoor

/-
  What Check of package field computes, whatever list of fields comes in.
-/
namespace Go.Proofs.YtipfjpihciiikaaGreatDoor
open Go.RowKit

set_option maxHeartbeats 1000000 in
set_option maxRecDepth 100000 in
theorem check_any (v : Value) (ls : List Fld) (w : World) (hf : Fl w v ls) (hm : Most maxLen ls) :
    Calls Tryz.prog 73 #[v] w fun e w' => e = .returned (.int .i64 (chk ls)) ∧ Below w.heap.size w w' := by
  obtain ⟨ad, cap, hv, hcap, hcm, hc⟩ := hf
  subst hv
  have HC : Hid (0 < ls.length → ∃ g off, ad = some ⟨g, off, none⟩ ∧ g < w.heap.size ∧
    ∀ (k : Nat) (h : k < ls.length), w.cell? ⟨g, off + k * 2, none⟩ = some (.string ⟨(ls[k]).1.toArray⟩) ∧ w.cell? ⟨g, off + k * 2 + 1, none⟩ = some (.string ⟨(ls[k]).2.toArray⟩)) := hc
  have HM : Hid (Most maxLen ls) := hm
  clear hc hm
  unfold maxLen at hcm
  by_cases h30 : 30 < (ls.length : Int)
  · have HK : Hid (chk ls = 2) := chk_many _ (by omega)
    go_enter Tryz.func73, Tryz.ntmps73
    go_wp2_with fail
    go_ret
    exact ⟨ret_int HK.out.symm, Below.refl _ _⟩
  · have HK : Hid (chk ls = chkL ls) := chk_few _ (by omega)
    go_enter Tryz.func73, Tryz.ntmps73
    go_wp2_with fail
    go_loopw [11] (fun i wr => ∃ k : Nat, k ≤ ls.length ∧ i = .int .i64 k ∧ chkL (ls.take k) = 0 ∧ Below w.heap.size w wr) (fun i _ => ls.length - (intOf i).toNat)
    case atStart => exact ⟨0, Nat.zero_le _, rfl, rfl, Below.refl _ _⟩
    case round =>
      obtain ⟨k, hk, rfl, hz, hw⟩ := hrel
      have HZ : Hid (chkL (ls.take k) = 0) := hz
      have hsz := hw.size
      clear hz
      by_cases hlt : k < ls.length
      · obtain ⟨g, off, rfl, hgs, hce⟩ := HC.out (by omega)
        obtain ⟨c1, c2⟩ := hce k hlt
        have hmo := HM.out ls[k] (List.getElem_mem hlt)
        obtain ⟨n, hn⟩ : ∃ n : ByteArray, n = ⟨(ls[k]).1.toArray⟩ := ⟨_, rfl⟩
        obtain ⟨u, hu⟩ : ∃ u : ByteArray, u = ⟨(ls[k]).2.toArray⟩ := ⟨_, rfl⟩
        have HN : Hid (n.size ≤ maxLen) := by show _ ≤ _; rw [← size_list, hn]; exact hmo.1
        have HU : Hid (u.size ≤ maxLen) := by show _ ≤ _; rw [← size_list, hu]; exact hmo.2
        have HE : Hid (chk1 (n.data.toList, u.data.toList) = chk1 ls[k]) := by show _ = _; rw [hn, hu]
        have d1 : wr.cell? ⟨g, off + k * 2, none⟩ = some (.string n) := by rw [hw.cell (p := ⟨g, off + k * 2, none⟩) hgs, hn]; exact c1
        have d2 : wr.cell? ⟨g, off + k * 2 + 1, none⟩ = some (.string u) := by rw [hw.cell (p := ⟨g, off + k * 2 + 1, none⟩) hgs, hu]; exact c2
        have hgr : g < wr.heap.size := by omega
        clear hce c1 c2 hmo hn hu
        have hki : (k : Int) < (ls.length : Int) := by omega
        have hk0 : (0 : Int) ≤ (k : Int) := by omega
        by_cases hch : chk1 ls[k] = 0
        · have HCH : Hid (chk1 (n.data.toList, u.data.toList) = 0) := by show _ = _; rw [HE.out]; exact hch
          have HNX : Hid (chkL (ls.take (k + 1)) = 0) := chkL_take ls k hlt HZ.out hch
          clear hch
          go_wp2_with fail
          refine (checkOne_any n u _ HN.out HU.out).mono ?_
          rintro e w2 ⟨rfl, hb⟩
          rw [HCH.out]
          go_wp2_with fail
          go_roundw
          case rel => exact ⟨k + 1, by omega, by go_num, HNX.out, ((hw.alloc (by omega) _)).trans (hb.mono (by simp; omega))⟩
          case measure => simp [intOf]; omega
        · obtain ⟨c, hcc⟩ : ∃ c : Int, c = chk1 ls[k] := ⟨_, rfl⟩
          have HNC : Hid (chk ls = c) := by show _ = _; rw [HK.out, hcc]; exact chkL_dead ls k hlt HZ.out hch
          have HCH : Hid (chk1 (n.data.toList, u.data.toList) = c) := by show _ = _; rw [HE.out, hcc]
          have hc0 : c ≠ 0 := by rw [hcc]; exact hch
          have hcb : (c != 0) = true := by simpa using hc0
          clear hch hcc hc0
          go_wp2_with fail
          refine (checkOne_any n u _ HN.out HU.out).mono ?_
          rintro e w2 ⟨rfl, hb⟩
          rw [HCH.out]
          go_wp2_with fail
          go_ret
          exact ⟨ret_int HNC.out.symm, ((hw.alloc (by omega) _)).trans (hb.mono (by simp; omega))⟩
      · have HNC : Hid (chk ls = 0) := by
          show _ = _
          rw [HK.out, ← HZ.out, List.take_of_length_le (by omega)]
        go_wp2_with fail
        go_ret
        exact ⟨ret_int HNC.out.symm, hw⟩
end Go.Proofs.YtipfjpihciiikaaGreatDoor

/-
  The contract of Go's (*strings.Builder).WriteString, which the shelf proves over any program, laid over this seat's translation. No condition but those that the theorem names.
-/
namespace Go.Proofs
def Tryz.lays166_ren : Go.Shelf.Ren := ⟨fun | 166 => 74 | 240 => 100 | 276 => 129 | n => n, fun | 0 => 0 | 3 => 3 | 4 => 4 | 5 => 5 | 9 => 9 | 20 => 20 | 37 => 94 | 70 => 93 | 72 => 96 | 75 => 99 | 80 => 101 | 164 => 135 | n => n, fun | n => n⟩
theorem Tryz.lays166 : Go.Proofs.Lays.n166 Tryz.prog Tryz.lays166_ren := {
  mixed := by kernel_rfl
  f166 := Tryz.func74.trans (congrArg some (by kernel_rfl))
  f240 := Tryz.func100.trans (congrArg some (by kernel_rfl))
  f276 := Tryz.func129.trans (congrArg some (by kernel_rfl))
  t0 := Tryz.underlying0
  a0 := Tryz.isAgg0
  z0 := Tryz.sizeOf0
  v0 := Tryz.zeroValue0
  t3 := Tryz.underlying3
  a3 := Tryz.isAgg3
  z3 := Tryz.sizeOf3
  v3 := Tryz.zeroValue3
  t4 := Tryz.underlying4
  a4 := Tryz.isAgg4
  z4 := Tryz.sizeOf4
  v4 := Tryz.zeroValue4
  t9 := Tryz.underlying9
  a9 := Tryz.isAgg9
  z9 := Tryz.sizeOf9
  v9 := Tryz.zeroValue9
  t20 := Tryz.underlying20
  a20 := Tryz.isAgg20
  z20 := Tryz.sizeOf20
  v20 := Tryz.zeroValue20
  t37 := Tryz.underlying94
  a37 := Tryz.isAgg94
  z37 := Tryz.sizeOf94
  v37 := Tryz.zeroValue94
  t70 := Tryz.underlying93
  a70 := Tryz.isAgg93
  z70 := Tryz.sizeOf93
  v70 := Tryz.zeroValue93
  t72 := Tryz.underlying96
  a72 := Tryz.isAgg96
  z72 := Tryz.sizeOf96
  v72 := Tryz.zeroValue96
  t75 := Tryz.underlying99
  a75 := Tryz.isAgg99
  z75 := Tryz.sizeOf99
  v75 := Tryz.zeroValue99
  t164 := Tryz.underlying135
  a164 := Tryz.isAgg135
  z164 := Tryz.sizeOf135
  v164 := Tryz.zeroValue135 }
theorem Tryz.Builder_Extra_166 : Builder.Extra Tryz.prog Tryz.lays166_ren := {
  sizeBuilder := by kernel_rfl
  liesBuilder := by kernel_rfl
  t5 := Tryz.underlying5
  a5 := Tryz.isAgg5
  z5 := Tryz.sizeOf5
  v5 := Tryz.zeroValue5
  infoByte := by kernel_rfl
  cellsByte := by kernel_rfl
  sizeByte := by kernel_rfl
  neB5 := by decide }
open Go.RowKit in
theorem Tryz.Builder_WriteString (B b : Nat) (bs : List Value) (s : ByteArray) (w : World) (h : Lib.IsBuilder 96 5 B b bs w) (hlen : bs.length + s.size ≤ 140737488355328) (hBw : B ≤ w.heap.size) :
    Calls Tryz.prog 74 #[.pointer (some ⟨b, 0, none⟩), .string s] w fun e w' => e = .returned (.tuple #[.int .i64 s.size, .nilIface]) ∧ (Lib.BuilderAt 96 5 B b (.pointer (some ⟨b, 0, none⟩)) (bs ++ Lib.strCells s) w' ∧ Below B w w') := Any.Builder_WriteString Tryz.lays166 Tryz.Builder_Extra_166 B b bs s w h hlen hBw
open Go.RowKit in
theorem Tryz.Builder_WriteString_k (B b : Nat) (bs : List Value) (s : ByteArray) (w : World) (h : Lib.IsBuilderF 96 5 B b bs w) (hlen : bs.length + s.size ≤ 140737488355328) (hBw : B ≤ w.heap.size) :
    Calls Tryz.prog 74 #[.pointer (some ⟨b, 0, none⟩), .string s] w fun e w' => e = .returned (.tuple #[.int .i64 s.size, .nilIface]) ∧ (Lib.BuilderAtF 96 5 B b (.pointer (some ⟨b, 0, none⟩)) (bs ++ Lib.strCells s) w' ∧ Below B w w' ∧ Lib.OthersKept 5 (some b) w w') := Any.Builder_WriteString_k Tryz.lays166 Tryz.Builder_Extra_166 B b bs s w h hlen hBw
end Go.Proofs

/-
  What Print of package field computes, whatever list of fields comes in.
-/
namespace Go.Proofs.YtipfjpihciiikaaGreatDoor
open Go.RowKit

theorem kept_pair {w w' : World} {b g : Nat} {t : TypeId} {n u : Value} (h : Lib.OthersKept 5 (some b) w w') (hg : w.heap[g]? = some (.cells #[n, u] t (0, 0))) (hne : b ≠ g) (ht : t ≠ 5) : w'.heap[g]? = some (.cells #[n, u] t (0, 0)) := by
  refine h g _ hg (fun e => hne (Option.some.inj e).symm) ?_
  intro c f e
  injection e with _ e2 _
  exact ht e2
theorem pair_cell {w : World} {g : Nat} {t : TypeId} {n u : Value} (hg : w.heap[g]? = some (.cells #[n, u] t (0, 0))) : w.cell? ⟨g, 0, none⟩ = some n ∧ w.cell? ⟨g, 1, none⟩ = some u := by
  refine ⟨?_, ?_⟩ <;> rw [Lib.cell_of_heap hg] <;> rfl
theorem cells_app (a : List UInt8) (s : ByteArray) : Lib.byteCells a ++ Lib.strCells s = Lib.byteCells (a ++ s.data.toList) := by rw [Lib.byteCells_append]; rfl

set_option maxHeartbeats 4000000 in
set_option maxRecDepth 100000 in
theorem print_any (v : Value) (ls : List Fld) (w : World) (hf : Fl w v ls) (hm : Most maxLen ls) :
    Calls Tryz.prog 39 #[v] w fun e w' => e = .returned (.tuple #[.string ⟨(prtS ls).1.toArray⟩, .int .i64 (prtS ls).2]) ∧ Below w.heap.size w w' := by
  have HF : Hid (Fl w v ls) := hf
  have HM : Hid (Most maxLen ls) := hm
  clear hf hm
  by_cases hch : chk ls = 0
  · have HCH : Hid (chk ls = 0) := hch
    have HP : Hid (prtS ls = (prt ls ++ [13, 10], 0)) := prtS_ok ls hch
    clear hch
    obtain ⟨ad, cap, hv, hcap, hcm, _⟩ := HF.out
    subst hv
    have hl30 := (chk_zero ls HCH.out).1
    unfold maxLen at hcm
    go_enter Tryz.func39, Tryz.ntmps39
    go_wp2_with fail
    refine (check_any _ ls _ HF.out HM.out).mono ?_
    rintro e w1 ⟨rfl, hb1⟩
    have HF1 : Hid (Fl w1 (.slice ad ls.length cap) ls) := HF.out.below hb1
    have hsz1 := hb1.size
    rw [HCH.out]
    have hfr := Lib.fresh_isBuilder 96 5 w1
    have HB : Hid (Lib.IsBuilderF 96 5 w1.heap.size w1.heap.size [] (w1.alloc (.cells #[.pointer none, .slice none 0 0] 96))) := Lib.IsBuilderF.of hfr
    have HB1 : Hid (Below w1.heap.size w1 (w1.alloc (.cells #[.pointer none, .slice none 0 0] 96))) := (Below.refl _ w1).alloc (Nat.le_refl _) _
    clear hfr
    go_wp2_with fail
    go_loopw [15] (fun i wr => ∃ k : Nat, k ≤ ls.length ∧ i = .int .i64 k ∧ Lib.IsBuilderF 96 5 w1.heap.size w1.heap.size (Lib.byteCells (prt (ls.take k))) wr ∧ Below w1.heap.size w1 wr) (fun i _ => ls.length - (intOf i).toNat)
    case atStart => exact ⟨0, Nat.zero_le _, rfl, HB.out, HB1.out⟩
    case round =>
      obtain ⟨k, hk, rfl, hbu, hw⟩ := hrel
      have hsz := hw.size
      have hpl := prt_take_len ls HCH.out k
      have HBU : Hid (Lib.IsBuilderF 96 5 w1.heap.size w1.heap.size (Lib.byteCells (prt (ls.take k))) wr) := hbu
      clear hbu
      have hwl : w1.heap.size < wr.heap.size := by
        rcases HBU.out with h | h
        · exact h.lt
        · exact h.lt
      by_cases hlt : k < ls.length
      · obtain ⟨ad', cap', hv', _, _, hc'⟩ := HF1.out
        simp only [Value.slice.injEq] at hv'
        obtain ⟨rfl, _, rfl⟩ := hv'
        obtain ⟨g, off, rfl, hgs, hce⟩ := hc' (by omega)
        obtain ⟨c1, c2⟩ := hce k hlt
        have hsh := chk_short ls HCH.out ls[k] (List.getElem_mem hlt)
        obtain ⟨n, hn⟩ : ∃ n : ByteArray, n = ⟨(ls[k]).1.toArray⟩ := ⟨_, rfl⟩
        obtain ⟨u, hu⟩ : ∃ u : ByteArray, u = ⟨(ls[k]).2.toArray⟩ := ⟨_, rfl⟩
        have hns : n.size ≤ 30 := by rw [← size_list, hn]; exact hsh.1
        have hus : u.size ≤ 1000 := by rw [← size_list, hu]; exact hsh.2
        have HE : Hid (prt (ls.take (k + 1)) = prt (ls.take k) ++ n.data.toList ++ [58, 32] ++ u.data.toList ++ [13, 10]) := by
          show _ = _
          rw [prt_take ls k hlt, hn, hu]
          simp [ln]
        have d1 : wr.cell? ⟨g, off + k * 2, none⟩ = some (.string n) := by rw [hw.cell (p := ⟨g, off + k * 2, none⟩) hgs, hn]; exact c1
        have d2 : wr.cell? ⟨g, off + k * 2 + 1, none⟩ = some (.string u) := by rw [hw.cell (p := ⟨g, off + k * 2 + 1, none⟩) hgs, hu]; exact c2
        have hgr : g < wr.heap.size := by omega
        clear hce c1 c2 hsh hn hu hc'
        have hki : (k : Int) < (ls.length : Int) := by omega
        have hk0 : (0 : Int) ≤ (k : Int) := by omega
        have hp0 : (wr.alloc (.cells #[.string n, .string u] 57)).heap[wr.heap.size]? = some (.cells #[.string n, .string u] 57 (0, 0)) := heap_alloc_new _ _
        have HP0 : Hid ((wr.alloc (.cells #[.string n, .string u] 57)).heap[wr.heap.size]? = some (.cells #[.string n, .string u] 57 (0, 0))) := hp0
        have HW0 : Hid (Below w1.heap.size w1 (wr.alloc (.cells #[.string n, .string u] 57))) := hw.alloc (by omega) _
        clear hp0
        go_wp2_with fail
        refine (Tryz.Builder_WriteString_k w1.heap.size w1.heap.size _ n _ (HBU.out.alloc _) (by rw [Lib.byteCells_length]; omega) (by simp; omega)).mono ?_
        rintro e w2 ⟨rfl, hb2, hw2, hk2⟩
        have HP2 : Hid (w2.heap[wr.heap.size]? = some (.cells #[.string n, .string u] 57 (0, 0))) := kept_pair hk2 HP0.out (by omega) (by decide)
        have HW2 := HW0.out.trans hw2
        rw [cells_app] at hb2
        go_wp2_with fail
        refine (Tryz.Builder_WriteString_k w1.heap.size w1.heap.size _ _ _ (.inr hb2) (by rw [Lib.byteCells_length, List.length_append, size_list]; show _ + 2 ≤ _; omega) HW2.size).mono ?_
        rintro e w3 ⟨rfl, hb3, hw3, hk3⟩
        have HP3 : Hid (w3.heap[wr.heap.size]? = some (.cells #[.string n, .string u] 57 (0, 0))) := kept_pair hk3 HP2.out (by omega) (by decide)
        have HW3 := HW2.trans hw3
        have hcu := (pair_cell HP3.out).2
        rw [cells_app] at hb3
        clear hb2 hk2 hk3 HP2 HP0 hw2 hw3
        go_wp2_with fail
        refine (Tryz.Builder_WriteString_k w1.heap.size w1.heap.size _ u _ (.inr hb3) (by rw [Lib.byteCells_length, List.length_append, List.length_append, size_list]; show _ + 2 + _ ≤ _; omega) HW3.size).mono ?_
        rintro e w4 ⟨rfl, hb4, hw4, hk4⟩
        have HW4 := HW3.trans hw4
        rw [cells_app] at hb4
        clear hb3 hk4 HP3 hcu hw4
        go_wp2_with fail
        refine (Tryz.Builder_WriteString_k w1.heap.size w1.heap.size _ _ _ (.inr hb4) (by rw [Lib.byteCells_length, List.length_append, List.length_append, List.length_append, size_list, size_list]; show _ + 2 + _ + 2 ≤ _; omega) HW4.size).mono ?_
        rintro e w5 ⟨rfl, hb5, hw5, hk5⟩
        have HW5 := HW4.trans hw5
        rw [cells_app] at hb5
        have HB5 : Hid (Lib.IsBuilderF 96 5 w1.heap.size w1.heap.size (Lib.byteCells (prt (ls.take (k + 1)))) w5) := by
          show Lib.IsBuilderF _ _ _ _ _ _
          rw [HE.out]; exact .inr hb5
        clear hb4 hk5 hb5 hw5
        go_wp2_with fail
        go_roundw
        case rel => exact ⟨k + 1, by omega, by go_num, HB5.out, HW5⟩
        case measure => simp [intOf]; omega
      · have HEnd : Hid (ls.take k = ls) := List.take_of_length_le (by omega)
        go_wp2_with fail
        refine (Tryz.Builder_WriteString_k w1.heap.size w1.heap.size _ _ _ HBU.out (by rw [Lib.byteCells_length]; show _ + 2 ≤ _; omega) hsz).mono ?_
        rintro e w2 ⟨rfl, hb2, hw2, hk2⟩
        rw [cells_app] at hb2
        have HW2 := hw.trans hw2
        go_wp2_with fail
        refine (Tryz.Builder_String_any_f w1.heap.size w1.heap.size _ _ (.inr hb2) HW2.size).mono ?_
        rintro e w3 ⟨rfl, hw3⟩
        go_wp2_with fail
        go_ret2
        refine ⟨ret_se ?_ (by rw [HP.out]), hb1.trans ((HW2.trans hw3.2).mono hsz1)⟩
        rw [HP.out, HEnd.out]
  · have HP : Hid (prtS ls = ([], chk ls)) := prtS_bad ls hch
    obtain ⟨c, hc⟩ : ∃ c, c = chk ls := ⟨_, rfl⟩
    have HC : Hid (chk ls = c) := hc.symm
    have hcb : (c != 0) = true := by rw [hc]; simpa using hch
    clear hch hc
    go_enter Tryz.func39, Tryz.ntmps39
    go_wp2_with fail
    refine (check_any _ ls _ HF.out HM.out).mono ?_
    rintro e w1 ⟨rfl, hb1⟩
    rw [HC.out]
    go_wp2_with fail
    go_ret2
    exact ⟨ret_se (by rw [HP.out]) (by rw [HP.out, HC.out]), hb1⟩
end Go.Proofs.YtipfjpihciiikaaGreatDoor

/-
  What numberLine and Encode of package body compute; the listed table of package math/bits holds what its text lays.
-/
namespace Go.Proofs.YtipfjpihciiikaaGreatDoor
open Go.RowKit

theorem ret_sv2 {a b : ByteArray} {v : Value} (h : a = b) : Ending.returned (.tuple #[.string a, v]) = .returned (.tuple #[.string b, v]) := by rw [h]

set_option maxHeartbeats 1000000 in
set_option maxRecDepth 100000 in
theorem numLine_at (u : Nat) (hu : u < 65536) (t : ByteArray) (ht : t.data.toList = hexd u ++ [13, 10]) (w : World) (h : HTab w) :
    Calls Tryz.prog 107 #[.int .i64 (u : Int)] w fun e w' => e = .returned (.string t) ∧ Below w.heap.size w w' := by
  have HT : Hid (HTab w) := h
  have HTT : Hid (t.data.toList = hexd u ++ [13, 10]) := ht
  obtain ⟨g, hg⟩ : ∃ g : ByteArray, g = ⟨(hexd u).toArray⟩ := ⟨_, rfl⟩
  have hgl : g.size ≤ 4 := by rw [← size_list, hg]; exact hexd_len _ hu
  have HG : Hid (g = ⟨(hexd u).toArray⟩) := hg
  clear h ht hg
  go_enter Tryz.func107, Tryz.ntmps107
  go_wp2_with fail
  refine (fmtInt_at u hu _ HT.out).mono ?_
  rintro e w1 ⟨rfl, hb⟩
  rw [← HG.out]
  go_wp2_with fail
  go_ret
  refine ⟨ret_str ?_, hb⟩
  apply ByteArray.ext; apply Array.ext'
  rw [HTT.out, HG.out]; simp

set_option maxHeartbeats 4000000 in
set_option maxRecDepth 100000 in
theorem encode_go (s : ByteArray) (size : Int) (n : Nat) (hsn : size = (n : Int) + 1) (h63 : size ≤ 9223372036854775807) (h5 : s.size ≤ 5000) (w : World) (hT : HTab w) :
    Calls Tryz.prog 75 #[.string s, .int .i64 size] w fun e w' => e = .returned (.tuple #[.string ⟨(encS n s.data.toList).toArray⟩, .int .i64 0]) ∧ Below w.heap.size w w' := by
  have HT : Hid (HTab w) := hT
  have HSN : Hid (size = (n : Int) + 1) := hsn
  have hns : ¬ size < 1 := by omega
  have hn5 : ¬ (5000 : Int) < (s.size : Int) := by omega
  have hel : (encS n s.data.toList).length ≤ 45005 := by
    have := encS_len n s.size s.data.toList (by rw [size_list]; exact Nat.le_refl _) (by rw [size_list]; exact h5)
    rw [size_list] at this; omega
  have HEL : Hid ((encS n s.data.toList).length ≤ 45005) := hel
  clear hT hsn hel
  go_enter Tryz.func75, Tryz.ntmps75
  go_wp2_with fail
  refine (print_any _ [] _ (Fl.nil _) (fun x hx => by cases hx)).mono ?_
  rintro e w1 ⟨rfl, hb1⟩
  rw [show (⟨(prtS []).1.toArray⟩ : ByteArray) = ⟨#[13, 10]⟩ from by decide +kernel, show (prtS []).2 = 0 from by decide +kernel]
  have hfr := Lib.fresh_isBuilder 96 5 w1
  have HB : Hid (Lib.IsBuilderF 96 5 w1.heap.size w1.heap.size [] (w1.alloc (.cells #[.pointer none, .slice none 0 0] 96))) := Lib.IsBuilderF.of hfr
  have HB1 : Hid (Below w1.heap.size w1 (w1.alloc (.cells #[.pointer none, .slice none 0 0] 96))) := (Below.refl _ w1).alloc (Nat.le_refl _) _
  have hsz1 := hb1.size
  clear hfr
  go_wp2_with fail
  go_loopw [9] (fun r wr => ∃ (rs : ByteArray) (B : List UInt8), r = .string rs ∧ rs.size ≤ 5000 ∧ B ++ encS n rs.data.toList = encS n s.data.toList ∧ Lib.IsBuilderF 96 5 w1.heap.size w1.heap.size (Lib.byteCells B) wr ∧ Below w1.heap.size w1 wr) (fun r _ => match r with | .string x => x.size | _ => 0)
  case atStart => exact ⟨s, [], rfl, h5, rfl, HB.out, HB1.out⟩
  case round =>
    obtain ⟨rs, B, rfl, hr5, hBe, hbu, hw⟩ := hrel
    rename World => wr
    have hsz := hw.size
    have HBE : Hid (B ++ encS n rs.data.toList = encS n s.data.toList) := hBe
    have HBU : Hid (Lib.IsBuilderF 96 5 w1.heap.size w1.heap.size (Lib.byteCells B) wr) := hbu
    have hBl : B.length + (encS n rs.data.toList).length ≤ 45005 := by rw [← List.length_append, hBe]; exact HEL.out
    clear hbu hBe
    by_cases h0 : rs.size = 0
    · have hse : rs = ⟨#[]⟩ := by apply ByteArray.ext; apply Array.ext'; exact List.eq_nil_of_length_eq_zero (by rw [size_list]; exact h0)
      subst hse
      have HEE : Hid (B ++ endC = encS n s.data.toList) := by show _ = _; rw [← HBE.out, encS_nil _ _ rfl]
      have hBl2 : B.length ≤ 45005 := by omega
      obtain ⟨z, hz⟩ : ∃ z : ByteArray, z = ⟨#[48, 13, 10]⟩ := ⟨_, rfl⟩
      have HZ : Hid (z = ⟨#[48, 13, 10]⟩) := hz
      have HZN := numLine_at 0 (by omega) z (by rw [hz, hexd_one 0 (by omega)]; rfl)
      have hzs : z.size = 3 := by rw [hz]; rfl
      clear hz hBl h0
      go_wp2_with fail
      refine (HZN _ ((HT.out.below hb1).below hw)).mono ?_
      rintro e w2 ⟨rfl, hb2⟩
      have HBU2 := HBU.out.below hb2
      have hw2 := hw.trans (hb2.mono hsz)
      clear hw hb2 HBU
      go_wp2_with fail
      refine (Tryz.Builder_WriteString_k w1.heap.size w1.heap.size _ z _ HBU2 (by rw [Lib.byteCells_length]; omega) hw2.size).mono ?_
      rintro e w3 ⟨rfl, hb3, hw3, _⟩
      rw [cells_app] at hb3
      have HW3 := hw2.trans hw3
      clear hw2 hw3 HBU2
      go_wp2_with fail
      refine (Tryz.Builder_WriteString_k w1.heap.size w1.heap.size _ _ _ (.inr hb3) (by rw [Lib.byteCells_length, List.length_append, size_list]; show _ + 2 ≤ _; omega) HW3.size).mono ?_
      rintro e w4 ⟨rfl, hb4, hw4, _⟩
      rw [cells_app] at hb4
      have HW4 := HW3.trans hw4
      clear HW3 hw4 hb3
      go_wp2_with fail
      refine (Tryz.Builder_String_any_f w1.heap.size w1.heap.size _ _ (.inr hb4) HW4.size).mono ?_
      rintro e w5 ⟨rfl, hw5⟩
      go_wp2_with fail
      go_ret2
      refine ⟨ret_sv2 ?_, hb1.trans ((HW4.trans hw5.2).mono hsz1)⟩
      rw [← HEE.out, HZ.out]
      simp [endC]
    · obtain ⟨m, hm⟩ : ∃ m : Nat, (m : Int) = min size (rs.size : Int) := ⟨(min size (rs.size : Int)).toNat, by omega⟩
      have hsn := HSN.out
      have hm1 : 1 ≤ m := by omega
      have hms : m ≤ rs.size := by omega
      have hmin : min size (rs.size : Int) = (m : Int) := hm.symm
      have hmn : m = min (n + 1) rs.data.toList.length := by rw [size_list]; omega
      obtain ⟨r, hr⟩ : ∃ r : ByteArray, r = rs.extract m rs.size := ⟨_, rfl⟩
      have hrl : r.data.toList = rs.data.toList.drop m := by
        rw [hr, Lib.extract_data, List.take_of_length_le (by rw [List.length_drop, size_list]; omega)]
      have hrs : r.size = rs.size - m := by rw [← size_list, hrl, List.length_drop, size_list]
      obtain ⟨a, ha⟩ : ∃ a : ByteArray, a = rs.extract 0 m := ⟨_, rfl⟩
      have hal : a.data.toList = rs.data.toList.take m := by rw [ha, Lib.extract_data, List.drop_zero]; rfl
      obtain ⟨t, ht⟩ : ∃ t : ByteArray, t.data.toList = hexd m ++ [13, 10] := ⟨⟨(hexd m ++ [13, 10]).toArray⟩, rfl⟩
      have HE : Hid (encS n rs.data.toList = t.data.toList ++ (a.data.toList ++ ([13, 10] ++ encS n r.data.toList))) := by
        show _ = _
        rw [encS_step _ _ (by rw [size_list]; exact h0) m hmn, ht, hal, hrl]; simp
      have hlen : B.length + (t.size + (a.size + (2 + (encS n r.data.toList).length))) ≤ 45005 := by
        have := hBl
        rw [HE.out] at this
        simp only [List.length_append, size_list, List.length_cons, List.length_nil] at this
        omega
      have hsl : ∀ w, (Instr.slice 9 (.string rs) (some (.int .i64 (m : Int))) none none).run Tryz.prog w = .ok (.string r) w := fun w => by
        rw [run_slice_string_l w 9 rs Tryz.underlying9 .i64 (m : Int) (by omega) (by omega), hr]; rfl
      have hsl2 : ∀ w, (Instr.slice 9 (.string rs) none (some (.int .i64 (m : Int))) none).run Tryz.prog w = .ok (.string a) w := fun w => by
        rw [run_slice_string_h w 9 rs Tryz.underlying9 .i64 (m : Int) (by omega) (by omega), ha]; rfl
      have hne : (rs.toList == []) = false := by
        rw [ByteArray.toList_eq, beq_eq_false_iff_ne]
        intro e; have := size_list rs; rw [e] at this; simp at this; omega
      have HNL := numLine_at m (by omega) t ht
      clear hm hmn hr hrl ha hal ht hBl hsn
      go_wp2_with fail
      refine (HNL _ ((HT.out.below hb1).below hw)).mono ?_
      rintro e w2 ⟨rfl, hb2⟩
      have HBU2 := HBU.out.below hb2
      have hw2 := hw.trans (hb2.mono hsz)
      clear hw hb2 HBU
      go_wp2_with fail
      refine (Tryz.Builder_WriteString_k w1.heap.size w1.heap.size _ t _ HBU2 (by rw [Lib.byteCells_length]; omega) hw2.size).mono ?_
      rintro e w3 ⟨rfl, hb3, hw3, _⟩
      rw [cells_app] at hb3
      have HW3 := hw2.trans hw3
      clear hw2 hw3 HBU2
      go_wp2_with fail
      refine (Tryz.Builder_WriteString_k w1.heap.size w1.heap.size _ a _ (.inr hb3) (by rw [Lib.byteCells_length, List.length_append, size_list]; omega) HW3.size).mono ?_
      rintro e w4 ⟨rfl, hb4, hw4, _⟩
      rw [cells_app] at hb4
      have HW4 := HW3.trans hw4
      clear HW3 hw4 hb3
      go_wp2_with fail
      refine (Tryz.Builder_WriteString_k w1.heap.size w1.heap.size _ _ _ (.inr hb4) (by rw [Lib.byteCells_length, List.length_append, List.length_append, size_list, size_list]; show _ + _ + _ + 2 ≤ _; omega) HW4.size).mono ?_
      rintro e w5 ⟨rfl, hb5, hw5, _⟩
      rw [cells_app] at hb5
      have HW5 := HW4.trans hw5
      have HBX : Hid ((B ++ t.data.toList ++ a.data.toList ++ [13, 10]) ++ encS n r.data.toList = encS n s.data.toList) := by
        show _ = _; rw [← HBE.out, HE.out]; simp
      have HB5 : Hid (Lib.IsBuilderF 96 5 w1.heap.size w1.heap.size (Lib.byteCells (B ++ t.data.toList ++ a.data.toList ++ [13, 10])) w5) := .inr hb5
      clear HW4 hw5 hb4 hb5
      go_wp2_with fail
      go_roundw
      case rel => exact ⟨r, _, rfl, by omega, HBX.out, HB5.out, HW5⟩
      case measure => simp; omega

set_option maxHeartbeats 1000000 in
set_option maxRecDepth 100000 in
theorem encode_at (s x : ByteArray) (size c : Int) (h : encE s.data.toList size = (x.data.toList, c)) (hw : size ≤ 9223372036854775807) (w : World) (hT : HTab w) :
    Calls Tryz.prog 75 #[.string s, .int .i64 size] w fun e w' => e = .returned (.tuple #[.string x, .int .i64 c]) ∧ Below w.heap.size w w' := by
  unfold encE at h
  by_cases h1 : size < 1
  · rw [if_pos h1] at h
    simp only [Prod.mk.injEq] at h
    obtain ⟨h2, rfl⟩ := h
    have hx : (⟨#[]⟩ : ByteArray) = x := by apply ByteArray.ext; apply Array.ext'; exact h2
    subst hx
    clear h2 hT
    go_enter Tryz.func75, Tryz.ntmps75
    go_wp2_with fail
    go_ret2
    exact ⟨rfl, Below.refl _ _⟩
  · rw [if_neg h1] at h
    by_cases h5 : 5000 < s.data.toList.length
    · rw [if_pos h5] at h
      simp only [Prod.mk.injEq] at h
      obtain ⟨h2, rfl⟩ := h
      have hx : (⟨#[]⟩ : ByteArray) = x := by apply ByteArray.ext; apply Array.ext'; exact h2
      subst hx
      rw [size_list] at h5
      have hi5 : (5000 : Int) < (s.size : Int) := by omega
      clear h2 h5 hT
      go_enter Tryz.func75, Tryz.ntmps75
      go_wp2_with fail
      go_ret2
      exact ⟨rfl, Below.refl _ _⟩
    · rw [if_neg h5] at h
      simp only [Prod.mk.injEq] at h
      obtain ⟨h2, rfl⟩ := h
      have hx : (⟨(encS (size - 1).toNat s.data.toList).toArray⟩ : ByteArray) = x := by apply ByteArray.ext; apply Array.ext'; exact h2
      rw [← hx]
      exact encode_go s size (size - 1).toNat (by omega) hw (by rw [size_list] at h5; omega) w hT
end Go.Proofs.YtipfjpihciiikaaGreatDoor
