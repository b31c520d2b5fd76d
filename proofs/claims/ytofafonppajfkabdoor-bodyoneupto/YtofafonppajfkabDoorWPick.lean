/-
  What pick of package field and slices.IndexFunc compute over a function value that answers p of each field; lists and texts are no longer than Go allows.
-/
import Derived.Test.YtofafonppajfkabDoorWClos
import Derived.Test.YtofafonppajfkabDoorWClone
import Derived.Test.YtofafonppajfkabDoorWInfoF
namespace Go.Proofs.YtofafonppajfkabDoor
open Go.RowKit

/-- What fits in the memory that Go's limits allow. -/
def Wide (ls : List Fld) : Prop := (∀ x ∈ ls, x.1.length ≤ 140737488351232 ∧ x.2.length ≤ 140737488351232) ∧ ls.length * 32 ≤ 140737488351232
theorem Wide.filter {ls : List Fld} (h : Wide ls) (p : Fld → Bool) : Wide (ls.filter p) := by
  refine ⟨fun x hx => h.1 x (List.mem_filter.1 hx).1, ?_⟩
  have := List.length_filter_le p ls
  have := h.2
  omega
theorem Wide.take {ls : List Fld} (h : Wide ls) (k : Nat) : Wide (ls.take k) := by
  refine ⟨fun x hx => h.1 x (List.mem_of_mem_take hx), ?_⟩
  have := List.length_take_le' k ls
  have := h.2
  omega
theorem Wide.drop {ls : List Fld} (h : Wide ls) (k : Nat) : Wide (ls.drop k) := by
  refine ⟨fun x hx => h.1 x (List.mem_of_mem_drop hx), ?_⟩
  have := h.2
  rw [List.length_drop]
  omega
theorem filter_take (ls : List Fld) (p : Fld → Bool) (k : Nat) (h : k < ls.length) : (ls.take (k + 1)).filter p = (ls.take k).filter p ++ (if p ls[k] then [ls[k]] else []) := by
  rw [List.take_succ_eq_append_getElem h, List.filter_append]
  congr 1
  rw [List.filter_cons]; rfl

set_option maxHeartbeats 2000000 in
set_option maxRecDepth 100000 in
theorem pick_any (v f : Value) (ls : List Fld) (p : Fld → Bool) (w : World) (hf : Fl w v ls) (hl : Wide ls) (hp : Pred w f p) :
    Calls Tryd.prog 25 #[v, f] w fun e w' => ∃ v', e = .returned v' ∧ w'.ownsRow w.heap.size 36 2 v' (ls.filter p).length (flds (ls.filter p)) ∧ Below w.heap.size w w' := by
  obtain ⟨i0, hi, hz0, hz1, hz2⟩ := info_parts infoF
  obtain ⟨ad, cap, hv, hcap, hcm, hc⟩ := hf
  obtain ⟨g0, lb, hfv, eg, hpc⟩ := hp
  subst hv hfv
  have HC : Hid (0 < ls.length → ∃ g off, ad = some ⟨g, off, none⟩ ∧ g < w.heap.size ∧
    ∀ (k : Nat) (h : k < ls.length), w.cell? ⟨g, off + k * 2, none⟩ = some (.string ⟨(ls[k]).1.toArray⟩) ∧ w.cell? ⟨g, off + k * 2 + 1, none⟩ = some (.string ⟨(ls[k]).2.toArray⟩)) := hc
  have HPC : Hid (∀ (W : World) (n u : ByteArray), Below w.heap.size w W → n.size ≤ 140737488351232 → Calls Tryd.prog g0 (#[.agg #[.string n, .string u]] ++ lb) W fun e w' => e = .returned (.bool (p (n.data.toList, u.data.toList))) ∧ Below W.heap.size W w') := hpc
  have HL : Hid (Wide ls) := hl
  have hll := hl.2
  clear hc hpc hl
  unfold maxLen at hcm
  go_enter Tryd.func25, Tryd.ntmps25
  go_wp2_with fail
  go_loopw [5, 10] (fun o i wr => ∃ k : Nat, k ≤ ls.length ∧ i = .int .i64 k ∧ wr.ownsRow w.heap.size 36 2 o ((ls.take k).filter p).length (flds ((ls.take k).filter p)) ∧ Below w.heap.size w wr) (fun _ i _ => ls.length - (intOf i).toNat)
  case atStart => exact ⟨0, Nat.zero_le _, rfl, World.ownsRow_nil _ _ _ _, Below.refl _ _⟩
  case round =>
    obtain ⟨k, hk, rfl, hown, hw⟩ := hrel
    have hsz := hw.size
    by_cases hlt : k < ls.length
    · obtain ⟨g, off, rfl, hgs, hce⟩ := HC.out (by omega)
      obtain ⟨c1, c2⟩ := hce k hlt
      have hmo := HL.out.1 ls[k] (List.getElem_mem hlt)
      obtain ⟨n, hn⟩ : ∃ n : ByteArray, n = ⟨(ls[k]).1.toArray⟩ := ⟨_, rfl⟩
      obtain ⟨u, hu⟩ : ∃ u : ByteArray, u = ⟨(ls[k]).2.toArray⟩ := ⟨_, rfl⟩
      have hns : n.size ≤ 140737488351232 := by rw [← size_list, hn]; exact hmo.1
      have hus : u.size ≤ 140737488351232 := by rw [← size_list, hu]; exact hmo.2
      have HE : Hid ((n.data.toList, u.data.toList) = ls[k]) := by show _ = _; rw [hn, hu]
      have d1 : wr.cell? ⟨g, off + k * 2, none⟩ = some (.string n) := by rw [hw.cell (p := ⟨g, off + k * 2, none⟩) hgs, hn]; exact c1
      have d2 : wr.cell? ⟨g, off + k * 2 + 1, none⟩ = some (.string u) := by rw [hw.cell (p := ⟨g, off + k * 2 + 1, none⟩) hgs, hu]; exact c2
      have hgr : g < wr.heap.size := by omega
      clear hce c1 c2 hmo hn hu
      have hki : (k : Int) < (ls.length : Int) := by omega
      have hk0 : (0 : Int) ≤ (k : Int) := by omega
      have HN0 : Hid ((wr.alloc (.cells #[.string n, .string u] 36)).heap[wr.heap.size]? = some (.cells #[.string n, .string u] 36 (0, 0))) := pair_new _ _ _ _
      have hw0 := hw.alloc hsz (.cells #[.string n, .string u] 36)
      have hown0 := hown.alloc (.cells #[.string n, .string u] 36)
      have HF := filter_take ls p k hlt
      have hfl : ((ls.take k).filter p).length ≤ k := by
        have h1 := List.length_filter_le p (ls.take k)
        have h2 := List.length_take_le k ls
        omega
      cases hq : p (n.data.toList, u.data.toList)
      · have HQ : Hid (p (n.data.toList, u.data.toList) = false) := hq
        rw [← HE.out, hq] at HF
        have HF2 : Hid ((ls.take (k + 1)).filter p = (ls.take k).filter p) := by show _ = _; rw [HF]; simp
        clear HF hq hown
        go_wp2_with (go_at_fn g0; refine (HPC.out _ n u hw0 hns).mono ?_; rintro e w2 ⟨rfl, hb2⟩; rw [HQ.out])
        go_roundw
        case rel => exact ⟨k + 1, by omega, by go_num, by rw [HF2.out]; exact own_below3 hown0 hb2, hw0.trans (hb2.mono hw0.size)⟩
        case measure => simp [intOf]; omega
      · have HQ : Hid (p (n.data.toList, u.data.toList) = true) := hq
        rw [← HE.out, hq] at HF
        have HF2 : Hid ((ls.take (k + 1)).filter p = (ls.take k).filter p ++ [(n.data.toList, u.data.toList)]) := by show _ = _; rw [HF]; simp
        clear HF hq hown
        go_wp2_with (go_at_fn g0; refine (HPC.out _ n u hw0 hns).mono ?_; rintro e w2 ⟨rfl, hb2⟩; rw [HQ.out]; have hown2 := own_below3 hown0 hb2; have hw2 := hw0.trans (hb2.mono hw0.size); obtain ⟨n1, n2, n3, n4, n5⟩ := pair_all (pair_below HN0.out hb2))
        refine (fclone_any n u _ (by omega) (by omega)).mono ?_
        rintro e w3 ⟨rfl, hb3⟩
        have hown3 := own_below3 hown2 hb3
        have hw3 := hw2.trans (hb3.mono hw2.size)
        have hsz3 := hw3.size
        clear hown2 hb3 hb2 hown0 n1 n2 n3 n4
        go_wp2_with (at_builtin; refine wpList_append_own _ rfl _ _ 34 rfl w.heap.size 36 i0 (.agg #[.string ⟨#[]⟩, .string ⟨#[]⟩]) 2 32 Tryd.underlying34 hi hz0 hz1 hz2 rfl (by decide) _ _ _ rfl (hown3.alloc _) ⟨w3.heap.size, 0, none⟩ 1 1 [.string n, .string u] rfl rfl ?c1 ?c2 ?c3 ?c4 ?c5 ?_)
        case c1 =>
          intro j z h
          match j, h with
          | 0, h => simp at h; subst h; simp [Addr.add]
          | 1, h => simp at h; subst h; simp [Addr.add]
        case c2 => intro z hx; simp at hx; rcases hx with rfl | rfl <;> rfl
        case c3 => unfold maxLen; omega
        case c4 => omega
        case c5 => simp; omega
        · intro v' w4 hown' hgrow _
          have hB : Below w.heap.size w w4 := (hw3.alloc (by omega) _).grown hgrow (by simp; omega) (fun b hb => ((hown3.alloc (.cells #[.string n, .string u] 36)).lt b hb).1)
          have hown4 : w4.ownsRow w.heap.size 36 2 v' ((ls.take (k + 1)).filter p).length (flds ((ls.take (k + 1)).filter p)) := by
            rw [HF2.out, ← flds_snoc, List.length_append]; exact hown'
          clear hown' hgrow hown3 hw3
          go_wp2_with fail
          go_roundw
          case rel => exact ⟨k + 1, by omega, by go_num, hown4, hB⟩
          case measure => simp [intOf]; omega
    · obtain rfl : k = ls.length := by omega
      rw [List.take_length] at hown
      go_wp2_with fail
      go_ret
      exact ⟨_, rfl, hown, hw⟩
end Go.Proofs.YtofafonppajfkabDoor
