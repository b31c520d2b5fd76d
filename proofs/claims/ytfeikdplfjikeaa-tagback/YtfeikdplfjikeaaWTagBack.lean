/-
  The walk through TagBack: it answers true and turns nothing that was there; a text is no longer than the claim's first form allows.
-/
import Derived.Test.YtfeikdplfjikeaaWEgP
import Derived.Test.YtfeikdplfjikeaaWEgS
namespace Go.Proofs.Ytfeikdplfjikeaa
open Go.RowKit

theorem pair_tg (p : Tg × Int) : ∃ (k : Bool) (x : ByteArray) (c : Int), p = ((k, x.data.toList), c) := ⟨p.1.1, ⟨p.1.2.toArray⟩, p.2, rfl⟩
set_option maxHeartbeats 4000000 in
set_option maxRecDepth 100000 in
theorem walkTagBack (b0 : Bool) (a0 : ByteArray) (a1 : ByteArray) (w : World) (_z0 : a0.size ≤ maxLen) (z1 : a1.size ≤ 140737488351232) :
    Calls Try.prog 4 #[.agg #[.bool b0, .string a0], .string a1] w fun e w' => e = .returned (.bool true) ∧ Below w.heap.size w w' := by
  clear _z0
  obtain ⟨p, c, hp⟩ := pair_bi (prE (b0, a0.data.toList))
  have HP : Hid (prE (b0, a0.data.toList) = (p.data.toList, c)) := hp
  obtain ⟨k, x, d, hq⟩ := pair_tg (paE a1.data.toList)
  have HQ : Hid (paE a1.data.toList = ((k, x.data.toList), d)) := hq
  have H0 : Hid (paE (⟨#[]⟩ : ByteArray).data.toList = ((false, (⟨#[]⟩ : ByteArray).data.toList), 3)) := by
    show _ = _
    decide +kernel
  have HPB : Hid (d = 0 → prE (k, x.data.toList) = (a1.data.toList, 0)) := by
    intro h
    have := paE_print a1.data.toList (by rw [hq]; exact h)
    rw [hq] at this; exact this
  have HPC : Hid (c = 0 → paE p.data.toList = ((b0, a0.data.toList), 0) ∧ p.size ≤ 140737488351232) := by
    intro h
    have h1 := paE_back (b0, a0.data.toList) (by rw [hp]; exact h)
    rw [hp] at h1
    refine ⟨h1, ?_⟩
    obtain ⟨h2, h3, _⟩ := prE_ok (b0, a0.data.toList) (by rw [hp]; exact h)
    rw [hp] at h2
    have h4 := prG_len (b0, a0.data.toList)
    rw [← (Prod.mk.inj h2).1, size_list] at h4
    simp only at h3 h4
    split at h4 <;> omega
  have HPE : Hid (c ≠ 0 → p = ⟨#[]⟩) := by
    intro h
    have := prE_bad (b0, a0.data.toList) (by rw [hp]; exact h)
    rw [hp] at this
    apply ByteArray.ext; apply Array.ext'; exact this
  have fin : ∀ W, Below (w.heap.size + 1) (w.alloc (.cells #[.bool b0, .string a0] 23)) W → W.cell? ⟨w.heap.size, 0, none⟩ = some (.bool b0) ∧ W.cell? ⟨w.heap.size, 1, none⟩ = some (.string a0) ∧ Below w.heap.size w W ∧ w.heap.size + 1 ≤ W.heap.size := by
    intro W h
    refine ⟨(h.cell (p := ⟨w.heap.size, 0, none⟩) (show w.heap.size < w.heap.size + 1 by omega)).trans (by simp), (h.cell (p := ⟨w.heap.size, 1, none⟩) (show w.heap.size < w.heap.size + 1 by omega)).trans (by simp), ((Below.refl _ w).alloc (Nat.le_refl _) _).trans (h.mono (by omega)), ?_⟩
    have := h.size; simpa using this
  have FIN : Hid (∀ W, Below (w.heap.size + 1) (w.alloc (.cells #[.bool b0, .string a0] 23)) W → W.cell? ⟨w.heap.size, 0, none⟩ = some (.bool b0) ∧ W.cell? ⟨w.heap.size, 1, none⟩ = some (.string a0) ∧ Below w.heap.size w W ∧ w.heap.size + 1 ≤ W.heap.size) := fin
  clear hp hq fin
  go_enter Try.func4, Try.ntmps4
  go_wp2_with fail
  refine (eprint_at b0 a0 p c HP.out _).mono ?_
  rintro e w1 ⟨rfl, hb1⟩
  have hc1 : Below (w.heap.size + 1) (w.alloc (.cells #[.bool b0, .string a0] 23)) w1 := hb1.mono (by simp)
  obtain ⟨_, _, _, hs1⟩ := FIN.out w1 hc1
  clear hb1
  go_wp2_with fail
  refine (eparse_at a1 x k d HQ.out _ z1).mono ?_
  rintro e w2 ⟨rfl, hb2⟩
  have hc2 := hc1.trans (hb2.mono hs1)
  have hc3 := hc2.alloc (FIN.out w2 hc2).2.2.2 (.cells #[.bool k, .string x] 23)
  clear hb2 hc1 hs1
  go_wp2_with fail
  refine (eparse_at ⟨#[]⟩ ⟨#[]⟩ false 3 H0.out _ (by decide)).mono ?_
  rintro e w3 ⟨rfl, hb3⟩
  have hc4 := hc3.trans (hb3.mono (FIN.out _ hc3).2.2.2)
  have hk0 : w3.cell? ⟨w2.heap.size, 0, none⟩ = some (.bool k) := (hb3.cell (p := ⟨w2.heap.size, 0, none⟩) (by simp)).trans (by simp)
  have hk1 : w3.cell? ⟨w2.heap.size, 1, none⟩ = some (.string x) := (hb3.cell (p := ⟨w2.heap.size, 1, none⟩) (by simp)).trans (by simp)
  have hs23 : w2.heap.size < w3.heap.size := by have := hb3.size; simp at this; omega
  have hc5 := hc4.alloc (FIN.out _ hc4).2.2.2 (.cells #[.bool false, .string ⟨#[]⟩] 23)
  obtain ⟨f0, f1, hB5, _⟩ := FIN.out _ hc5
  have HB5 : Hid (Below w.heap.size w _) := hB5
  have hk2 : (w3.alloc (.cells #[.bool false, .string ⟨#[]⟩] 23)).cell? ⟨w2.heap.size, 0, none⟩ = some (.bool k) := by rw [World.cell?_alloc_lt _ _ ⟨w2.heap.size, 0, none⟩ hs23]; exact hk0
  have hk3 : (w3.alloc (.cells #[.bool false, .string ⟨#[]⟩] 23)).cell? ⟨w2.heap.size, 1, none⟩ = some (.string x) := by rw [World.cell?_alloc_lt _ _ ⟨w2.heap.size, 1, none⟩ hs23]; exact hk1
  have HC5 : Hid (Below (w.heap.size + 1) (w.alloc (.cells #[.bool b0, .string a0] 23)) (w3.alloc (.cells #[.bool false, .string ⟨#[]⟩] 23))) := hc5
  clear hc2 hc3 hc4 hc5 hb3 hB5 f0 f1 hk0 hk1 hs23
  have rest : ∀ W6, Below (w.heap.size + 1) (w.alloc (.cells #[.bool b0, .string a0] 23)) W6 → c = 0 → W6.cell? ⟨w.heap.size, 0, none⟩ = some (.bool b0) := fun W6 h _ => (FIN.out W6 h).1
  clear rest
  by_cases hd : d = 0
  · subst hd
    have HPB0 : Hid (prE (k, x.data.toList) = (a1.data.toList, 0)) := HPB.out rfl
    clear HPB
    go_wp2_with fail
    refine (eprint_at k x a1 0 HPB0.out _).mono ?_
    rintro e w6 ⟨rfl, hb6⟩
    have HC6 : Hid (Below (w.heap.size + 1) (w.alloc (.cells #[.bool b0, .string a0] 23)) w6) := HC5.out.trans (hb6.mono (FIN.out _ HC5.out).2.2.2)
    clear hb6 hk2 hk3 HB5
    by_cases hc : c = 0
    · subst hc
      obtain ⟨hp1, hp2⟩ := HPC.out rfl
      have HP1 : Hid (paE p.data.toList = ((b0, a0.data.toList), 0)) := hp1
      clear hp1
      go_wp2_with fail
      refine (eparse_at p a0 b0 0 HP1.out _ hp2).mono ?_
      rintro e w7 ⟨rfl, hb7⟩
      have hc7 := HC6.out.trans (hb7.mono (FIN.out _ HC6.out).2.2.2)
      have hc8 := hc7.alloc (FIN.out _ hc7).2.2.2 (.cells #[.bool b0, .string a0] 23)
      obtain ⟨f0, f1, hB8, hs8⟩ := FIN.out _ hc8
      have HB8 : Hid (Below w.heap.size w _) := hB8
      clear hc7 hc8 hB8 hb7
      go_wp2_with fail
      go_ret
      exact ⟨by simp, HB8.out⟩
    · have hcb : (c != 0) = true := by simpa using hc
      obtain rfl := HPE.out hc
      go_wp2_with fail
      go_ret
      exact ⟨rfl, (FIN.out _ HC6.out).2.2.1⟩
  · have hdb : (d == 0) = false := by simp [hd]
    by_cases hc : c = 0
    · subst hc
      obtain ⟨hp1, hp2⟩ := HPC.out rfl
      have HP1 : Hid (paE p.data.toList = ((b0, a0.data.toList), 0)) := hp1
      clear hp1
      go_wp2_with fail
      refine (eparse_at p a0 b0 0 HP1.out _ hp2).mono ?_
      rintro e w7 ⟨rfl, hb7⟩
      have hc7 := HC5.out.trans (hb7.mono (FIN.out _ HC5.out).2.2.2)
      have hc8 := hc7.alloc (FIN.out _ hc7).2.2.2 (.cells #[.bool b0, .string a0] 23)
      obtain ⟨f0, f1, hB8, hs8⟩ := FIN.out _ hc8
      have HB8 : Hid (Below w.heap.size w _) := hB8
      clear hc7 hc8 hB8 hb7
      go_wp2_with fail
      go_ret
      exact ⟨by simp, HB8.out⟩
    · have hcb : (c != 0) = true := by simpa using hc
      obtain rfl := HPE.out hc
      go_wp2_with fail
      go_ret
      exact ⟨rfl, HB5.out⟩
end Go.Proofs.Ytfeikdplfjikeaa
