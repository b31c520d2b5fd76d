/-
  What slices.IndexFunc and Set of package field compute; lists and texts are no longer than Go allows.
-/
import Derived.Test.YtflkgpjapgkgmabSpecG
import Derived.Test.YtflkgpjapgkgmabWPick
import Derived.Laws.AppendOwnNone
namespace Go.Proofs.Ytflkgpjapgkgmab
open Go.RowKit

theorem elemF : Try.prog.elem 22 = 29 := by kernel_rfl
theorem slice_high (ad : Option Addr) (n cap k : Nat) (hk : k ≤ cap) (u : World) :
    (Instr.slice 22 (.slice ad n cap) none (some (.int .i64 (k : Int))) none).run Try.prog u = .ok (.slice ad k cap) u := by
  rw [run_slice_h u 22 ad n cap (by rw [elemF]; exact Try.underlying22) .i64 (k : Int) (by omega) (by omega), elemF, Try.sizeOf29]
  simp [Result.andThen, sliced]
  intro _
  cases ad <;> simp [Addr.add]
theorem slice_low (ad : Option Addr) (n cap k : Nat) (hk : k ≤ n) (u : World) :
    (Instr.slice 22 (.slice ad n cap) (some (.int .i64 (k : Int))) none none).run Try.prog u = .ok (.slice (if cap = k then ad else ad.map (·.add (k * 2))) (n - k) (cap - k)) u := by
  rw [run_slice_l u 22 ad n cap (by rw [elemF]; exact Try.underlying22) .i64 (k : Int) (by omega) (by omega), elemF, Try.sizeOf29]
  simp [Result.andThen, sliced]
theorem Fl.take {w : World} {ad : Option Addr} {cap : Nat} {ls : List Fld} (h : Fl w (.slice ad ls.length cap) ls) (k : Nat) (hk : k ≤ ls.length) : Fl w (.slice ad k cap) (ls.take k) := by
  obtain ⟨ad', cap', hv, h1, h2, h3⟩ := h
  simp only [Value.slice.injEq] at hv
  obtain ⟨rfl, _, rfl⟩ := hv
  have hl : (ls.take k).length = k := by rw [List.length_take]; omega
  refine ⟨ad, cap, by rw [hl], by rw [hl]; omega, h2, fun h0 => ?_⟩
  rw [hl] at h0
  obtain ⟨g, off, ha, hg, hc⟩ := h3 (by omega)
  refine ⟨g, off, ha, hg, fun j hj => ?_⟩
  rw [hl] at hj
  rw [List.getElem_take]
  exact hc j (by omega)
theorem Fl.drop {w : World} {ad : Option Addr} {cap : Nat} {ls : List Fld} (h : Fl w (.slice ad ls.length cap) ls) (k : Nat) (hk : k ≤ ls.length) : Fl w (.slice (if cap = k then ad else ad.map (·.add (k * 2))) (ls.length - k) (cap - k)) (ls.drop k) := by
  obtain ⟨ad', cap', hv, h1, h2, h3⟩ := h
  simp only [Value.slice.injEq] at hv
  obtain ⟨rfl, _, rfl⟩ := hv
  have hl : (ls.drop k).length = ls.length - k := List.length_drop
  refine ⟨_, cap - k, by rw [hl], by rw [hl]; omega, by unfold maxLen at *; omega, fun h0 => ?_⟩
  rw [hl] at h0
  obtain ⟨g, off, ha, hg, hc⟩ := h3 (by omega)
  subst ha
  rw [if_neg (by omega)]
  refine ⟨g, off + k * 2, ?_, hg, fun j hj => ?_⟩
  · by_cases hk0 : k = 0
    · subst hk0; simp [Addr.add]
    · simp [Addr.add]; omega
  · rw [hl] at hj
    rw [List.getElem_drop]
    have := hc (k + j) (by omega)
    rw [show off + k * 2 + j * 2 = off + (k + j) * 2 from by omega]
    exact this
theorem flds_one (ls : List Fld) : ∀ u ∈ flds ls, u.oneCell' = true := by
  intro u hu
  unfold flds at hu
  obtain ⟨x, _, hx⟩ := List.mem_flatMap.1 hu
  simp at hx
  rcases hx with rfl | rfl <;> rfl

set_option maxHeartbeats 2000000 in
set_option maxRecDepth 100000 in
theorem idx_any (v f : Value) (ls : List Fld) (p : Fld → Bool) (r : Int) (hr : (r = -1 ∧ ∀ x ∈ ls, p x = false) ∨ ∃ (k : Nat) (h : k < ls.length), r = k ∧ p ls[k] = true ∧ ∀ x ∈ ls.take k, p x = false) (w : World) (hf : Fl w v ls) (hl : Wide ls) (hp : Pred w f p) :
    Calls Try.prog 12 #[v, f] w fun e w' => e = .returned (.int .i64 r) ∧ Below w.heap.size w w' := by
  obtain ⟨ad, cap, hv, hcap, hcm, hc⟩ := hf
  obtain ⟨g0, lb, hfv, eg, hpc⟩ := hp
  subst hv hfv
  have HC : Hid (0 < ls.length → ∃ g off, ad = some ⟨g, off, none⟩ ∧ g < w.heap.size ∧
    ∀ (k : Nat) (h : k < ls.length), w.cell? ⟨g, off + k * 2, none⟩ = some (.string ⟨(ls[k]).1.toArray⟩) ∧ w.cell? ⟨g, off + k * 2 + 1, none⟩ = some (.string ⟨(ls[k]).2.toArray⟩)) := hc
  have HPC : Hid (∀ (W : World) (n u : ByteArray), Below w.heap.size w W → n.size ≤ 140737488351232 → Calls Try.prog g0 (#[.agg #[.string n, .string u]] ++ lb) W fun e w' => e = .returned (.bool (p (n.data.toList, u.data.toList))) ∧ Below W.heap.size W w') := hpc
  have HL : Hid (Wide ls) := hl
  have hll := hl.2
  have HR : Hid ((r = -1 ∧ ∀ x ∈ ls, p x = false) ∨ ∃ (k : Nat) (h : k < ls.length), r = k ∧ p ls[k] = true ∧ ∀ x ∈ ls.take k, p x = false) := hr
  clear hc hpc hl hr
  unfold maxLen at hcm
  go_enter Try.func12, Try.ntmps12
  go_wp2_with fail
  go_loopw [8] (fun i wr => ∃ k : Nat, k ≤ ls.length ∧ i = .int .i64 k ∧ (∀ x ∈ ls.take k, p x = false) ∧ Below w.heap.size w wr) (fun i _ => ls.length - (intOf i).toNat)
  case atStart => exact ⟨0, Nat.zero_le _, rfl, fun x hx => by simp at hx, Below.refl _ _⟩
  case round =>
    obtain ⟨k, hk, rfl, hno, hw⟩ := hrel
    have hsz := hw.size
    have HNO : Hid (∀ x ∈ ls.take k, p x = false) := hno
    clear hno
    by_cases hlt : k < ls.length
    · obtain ⟨g, off, rfl, hgs, hce⟩ := HC.out (by omega)
      obtain ⟨c1, c2⟩ := hce k hlt
      have hmo := HL.out.1 ls[k] (List.getElem_mem hlt)
      obtain ⟨n, hn⟩ : ∃ n : ByteArray, n = ⟨(ls[k]).1.toArray⟩ := ⟨_, rfl⟩
      obtain ⟨u, hu⟩ : ∃ u : ByteArray, u = ⟨(ls[k]).2.toArray⟩ := ⟨_, rfl⟩
      have hns : n.size ≤ 140737488351232 := by rw [← size_list, hn]; exact hmo.1
      have HE : Hid ((n.data.toList, u.data.toList) = ls[k]) := by show _ = _; rw [hn, hu]
      have d1 : wr.cell? ⟨g, off + k * 2, none⟩ = some (.string n) := by rw [hw.cell (p := ⟨g, off + k * 2, none⟩) hgs, hn]; exact c1
      have d2 : wr.cell? ⟨g, off + k * 2 + 1, none⟩ = some (.string u) := by rw [hw.cell (p := ⟨g, off + k * 2 + 1, none⟩) hgs, hu]; exact c2
      have hgr : g < wr.heap.size := by omega
      clear hce c1 c2 hmo hn hu
      have hki : (k : Int) < (ls.length : Int) := by omega
      have hk0 : (0 : Int) ≤ (k : Int) := by omega
      cases hq : p (n.data.toList, u.data.toList)
      · have HQ : Hid (p (n.data.toList, u.data.toList) = false) := hq
        have HNX : Hid (∀ x ∈ ls.take (k + 1), p x = false) := by
          intro x hx
          rw [List.take_succ_eq_append_getElem hlt] at hx
          rcases List.mem_append.1 hx with hx | hx
          · exact HNO.out x hx
          · rw [List.mem_singleton.1 hx, ← HE.out]; exact HQ.out
        clear hq
        go_wp2_with (go_at_fn g0; refine (HPC.out _ n u hw hns).mono ?_; rintro e w2 ⟨rfl, hb2⟩; rw [HQ.out])
        go_roundw
        case rel => exact ⟨k + 1, by omega, by go_num, HNX.out, hw.trans (hb2.mono hw.size)⟩
        case measure => simp [intOf]; omega
      · have HQ : Hid (p (n.data.toList, u.data.toList) = true) := hq
        have HRK : Hid (r = (k : Int)) := by
          show _ = _
          rcases HR.out with ⟨_, hall⟩ | ⟨k', hk', hrk, hp', hno'⟩
          · have := hall ls[k] (List.getElem_mem hlt)
            rw [← HE.out, hq] at this; cases this
          · have h1 : ¬ k' < k := by
              intro h
              have hm : ls[k'] ∈ ls.take k := by
                rw [List.mem_take_iff_getElem]
                exact ⟨k', by omega, rfl⟩
              have := HNO.out _ hm
              rw [hp'] at this; cases this
            have h2 : ¬ k < k' := by
              intro h
              have hm : ls[k] ∈ ls.take k' := by
                rw [List.mem_take_iff_getElem]
                exact ⟨k, by omega, rfl⟩
              have := hno' _ hm
              rw [← HE.out, hq] at this; cases this
            rw [hrk]
            have : k' = k := by omega
            rw [this]
        clear hq
        go_wp2_with (go_at_fn g0; refine (HPC.out _ n u hw hns).mono ?_; rintro e w2 ⟨rfl, hb2⟩; rw [HQ.out])
        go_ret
        exact ⟨ret_int HRK.out.symm, hw.trans (hb2.mono hw.size)⟩
    · have HRK : Hid (r = -1) := by
        show _ = _
        rcases HR.out with ⟨h, _⟩ | ⟨k', hk', hrk, hp', _⟩
        · exact h
        · have hm : ls[k'] ∈ ls.take k := by
            rw [List.mem_take_iff_getElem]
            exact ⟨k', by omega, rfl⟩
          have := HNO.out _ hm
          rw [hp'] at this; cases this
      go_wp2_with fail
      go_ret
      exact ⟨ret_int HRK.out.symm, hw⟩
end Go.Proofs.Ytflkgpjapgkgmab
