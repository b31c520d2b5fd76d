/-
  What Parse of package etag computes.
-/
import Derived.Test.YtfeikdplfjikeaaDoorWEgC
import Derived.Test.YtfeikdplfjikeaaDoorWCsuf
import Derived.Test.YtfeikdplfjikeaaDoorWCpre
import Derived.Test.YtfeikdplfjikeaaDoorWSClone
import Derived.Test.YtfeikdplfjikeaaDoorSpecTw
namespace Go.Proofs.YtfeikdplfjikeaaDoor
open Go.RowKit

theorem cutPre_len {s r p : List UInt8} {f : Bool} (h : cutPre s p = (r, f)) : r.length ≤ s.length := by
  unfold cutPre Lib.trimPrefix at h
  simp only [Prod.mk.injEq] at h
  rw [← h.1]; split
  · rw [List.length_drop]; omega
  · exact Nat.le_refl _
theorem cutSuf_len {s r p : List UInt8} {f : Bool} (h : cutSuf s p = (r, f)) : r.length ≤ s.length := by
  unfold cutSuf Lib.trimSuffix at h
  simp only [Prod.mk.injEq] at h
  rw [← h.1]; split
  · rw [List.length_take]; omega
  · exact Nat.le_refl _
set_option maxHeartbeats 2000000 in
set_option maxRecDepth 100000 in
theorem eparse_at (s x : ByteArray) (k : Bool) (c : Int) (h : paE s.data.toList = ((k, x.data.toList), c)) (w : World) (hs : s.size ≤ 140737488351232) :
    Calls Tryd.prog 20 #[.string s] w fun e w' => e = .returned (.tuple #[.agg #[.bool k, .string x], .int .i64 c]) ∧ Below w.heap.size w w' := by
  obtain ⟨r, wk, h1⟩ : ∃ (r : ByteArray) (wk : Bool), cutPre s.data.toList [87, 47] = (r.data.toList, wk) := ⟨⟨(Lib.trimPrefix s.data.toList [87, 47]).toArray⟩, Lib.hasPrefix s.data.toList [87, 47], rfl⟩
  obtain ⟨b, op, h2⟩ : ∃ (b : ByteArray) (op : Bool), cutPre r.data.toList [34] = (b.data.toList, op) := ⟨⟨(Lib.trimPrefix r.data.toList [34]).toArray⟩, Lib.hasPrefix r.data.toList [34], rfl⟩
  obtain ⟨t, cl, h3⟩ : ∃ (t : ByteArray) (cl : Bool), cutSuf b.data.toList [34] = (t.data.toList, cl) := ⟨⟨(Lib.trimSuffix b.data.toList [34]).toArray⟩, Lib.hasSuffix b.data.toList [34], rfl⟩
  have hb : b.size ≤ 140737488351232 ∧ t.size ≤ 140737488351232 := by
    have l1 := cutPre_len h1
    have l2 := cutPre_len h2
    have l3 := cutSuf_len h3
    rw [size_list, size_list] at l1 l2 l3
    omega
  obtain ⟨hb, ht⟩ := hb
  have hp := paE_parts _ _ _ _ _ _ _ h1 h2 h3
  rw [h] at hp
  have H1 : Hid (cutPre s.data.toList (⟨#[87, 47]⟩ : ByteArray).data.toList = (r.data.toList, wk)) := h1
  have H2 : Hid (cutPre r.data.toList (⟨#[34]⟩ : ByteArray).data.toList = (b.data.toList, op)) := h2
  have H3 : Hid (cutSuf b.data.toList (⟨#[34]⟩ : ByteArray).data.toList = (t.data.toList, cl)) := h3
  obtain ⟨ce, hce⟩ : ∃ ce, chE t.data.toList = ce := ⟨_, rfl⟩
  have HCE : Hid (chE t.data.toList = ce) := hce
  rw [hce] at hp
  clear h h1 h2 h3 hce
  by_cases hok : op = true ∧ cl = true ∧ ce = 0
  · rw [if_pos hok] at hp
    obtain ⟨rfl, rfl, rfl⟩ := hok
    obtain ⟨hp1, hp2⟩ := Prod.mk.inj hp
    obtain ⟨hp3, hp4⟩ := Prod.mk.inj hp1
    obtain rfl : k = wk := hp3
    obtain rfl : x = t := ByteArray.ext (Array.ext' hp4)
    obtain rfl : c = 0 := hp2
    clear hp hp1 hp4
    go_enter Tryd.func20, Tryd.ntmps20
    go_wp2_with fail
    refine (scutPre_at s _ r k H1.out _).mono ?_
    rintro e w1 ⟨rfl, rfl⟩
    go_wp2_with fail
    refine (scutPre_at r _ b true H2.out _).mono ?_
    rintro e w1 ⟨rfl, rfl⟩
    go_wp2_with fail
    refine (scutSuf_at b _ x true H3.out _ (by omega)).mono ?_
    rintro e w1 ⟨rfl, rfl⟩
    go_wp2_with fail
    refine (echeck_is x 0 HCE.out _).mono ?_
    rintro e w1 ⟨rfl, rfl⟩
    go_wp2_with fail
    refine (clone_big x _ (by omega)).mono ?_
    rintro e w3 ⟨rfl, hb3⟩
    have hf0 : w3.cell? ⟨w.heap.size, 0, none⟩ = some (.bool false) := (hb3.cell (p := ⟨w.heap.size, 0, none⟩) (by simp)).trans (by simp)
    have hf1 : w3.cell? ⟨w.heap.size, 1, none⟩ = some (.string ⟨#[]⟩) := (hb3.cell (p := ⟨w.heap.size, 1, none⟩) (by simp)).trans (by simp)
    have hfz : ∀ o, w3.frozen? ⟨w.heap.size, o, none⟩ = false := fun o => (hb3.frozen (p := ⟨w.heap.size, o, none⟩) (by simp)).trans (by simp)
    have hz0 := hfz 0
    have hz1 := hfz 1
    have hbel : Below w.heap.size w w3 := ((Below.refl _ w).alloc (Nat.le_refl _) _).trans (hb3.mono (by simp))
    have hgs3 : w.heap.size < w3.heap.size := by have := hb3.size; simp at this; omega
    clear hb3 hfz
    go_wp2_with fail
    obtain ⟨c0, c1⟩ := two_set (.bool k) (.string x) hf0 hf1
    obtain ⟨w4, hw4⟩ : ∃ w4, w4 = (w3.setCell ⟨w.heap.size, 0, none⟩ (.bool k)).setCell ⟨w.heap.size, 1, none⟩ (.string x) := ⟨_, rfl⟩
    have hb4 : Below w.heap.size w w4 := by rw [hw4]; exact (hbel.setCell (p := ⟨w.heap.size, 0, none⟩) (Nat.le_refl _) _).setCell (p := ⟨w.heap.size, 1, none⟩) (Nat.le_refl _) _
    rw [← hw4] at c0 c1 ⊢
    clear hw4
    refine bodyPost_ret (by simp [results, Tryd.results20, go_sem, c0, c1]; try rfl) rfl ?_
    exact ⟨rfl, hb4⟩
  · rw [if_neg hok] at hp
    obtain ⟨hp1, hp2⟩ := Prod.mk.inj hp
    obtain ⟨hp3, hp4⟩ := Prod.mk.inj hp1
    obtain rfl : k = false := hp3
    obtain rfl : x = ⟨#[]⟩ := ByteArray.ext (Array.ext' hp4)
    obtain rfl : c = 3 := hp2
    clear hp hp1 hp4
    have fin : ∀ w3 : World, w3 = w.alloc (.cells #[.bool false, .string ⟨#[]⟩] 28) → w3.cell? ⟨w.heap.size, 0, none⟩ = some (.bool false) ∧ w3.cell? ⟨w.heap.size, 1, none⟩ = some (.string ⟨#[]⟩) ∧ w3.frozen? ⟨w.heap.size, 0, none⟩ = false ∧ w3.frozen? ⟨w.heap.size, 1, none⟩ = false ∧ Below w.heap.size w w3 ∧ w.heap.size < w3.heap.size := by
      rintro w3 rfl
      refine ⟨by simp, by simp, by simp, by simp, (Below.refl _ w).alloc (Nat.le_refl _) _, by simp⟩
    have FIN : Hid (∀ w3 : World, w3 = w.alloc (.cells #[.bool false, .string ⟨#[]⟩] 28) → w3.cell? ⟨w.heap.size, 0, none⟩ = some (.bool false) ∧ w3.cell? ⟨w.heap.size, 1, none⟩ = some (.string ⟨#[]⟩) ∧ w3.frozen? ⟨w.heap.size, 0, none⟩ = false ∧ w3.frozen? ⟨w.heap.size, 1, none⟩ = false ∧ Below w.heap.size w w3 ∧ w.heap.size < w3.heap.size) := fin
    clear fin
    by_cases hoc : op = true ∧ cl = true
    · obtain ⟨rfl, rfl⟩ := hoc
      have hcb : (ce != 0) = true := by simpa using hok
      clear hok
      go_enter Tryd.func20, Tryd.ntmps20
      go_wp2_with fail
      refine (scutPre_at s _ r wk H1.out _).mono ?_
      rintro e w1 ⟨rfl, rfl⟩
      go_wp2_with fail
      refine (scutPre_at r _ b true H2.out _).mono ?_
      rintro e w1 ⟨rfl, rfl⟩
      go_wp2_with fail
      refine (scutSuf_at b _ t true H3.out _ (by omega)).mono ?_
      rintro e w1 ⟨rfl, rfl⟩
      go_wp2_with fail
      refine (echeck_is t ce HCE.out _).mono ?_
      rintro e w3 ⟨rfl, hw3⟩
      obtain ⟨hf0, hf1, hz0, hz1, hbel, hgs3⟩ := FIN.out w3 hw3
      clear hw3 FIN
      go_wp2_with fail
      obtain ⟨c0, c1⟩ := two_set (.bool false) (.string ⟨#[]⟩) hf0 hf1
      obtain ⟨w4, hw4⟩ : ∃ w4, w4 = (w3.setCell ⟨w.heap.size, 0, none⟩ (.bool false)).setCell ⟨w.heap.size, 1, none⟩ (.string ⟨#[]⟩) := ⟨_, rfl⟩
      have hb4 : Below w.heap.size w w4 := by rw [hw4]; exact (hbel.setCell (p := ⟨w.heap.size, 0, none⟩) (Nat.le_refl _) _).setCell (p := ⟨w.heap.size, 1, none⟩) (Nat.le_refl _) _
      rw [← hw4] at c0 c1 ⊢
      clear hw4
      refine bodyPost_ret (by simp [results, Tryd.results20, go_sem, c0, c1]; try rfl) rfl ?_
      exact ⟨rfl, hb4⟩
    · have hd : op = false ∨ op = true ∧ cl = false := by
        cases op
        · exact .inl rfl
        · cases cl
          · exact .inr ⟨rfl, rfl⟩
          · exact absurd ⟨rfl, rfl⟩ hoc
      clear hoc hok
      rcases hd with rfl | ⟨rfl, rfl⟩
      all_goals
        go_enter Tryd.func20, Tryd.ntmps20
        go_wp2_with fail
        refine (scutPre_at s _ r wk H1.out _).mono ?_
        rintro e w1 ⟨rfl, rfl⟩
        go_wp2_with fail
        refine (scutPre_at r _ b _ H2.out _).mono ?_
        rintro e w1 ⟨rfl, rfl⟩
        go_wp2_with fail
        refine (scutSuf_at b _ t _ H3.out _ (by omega)).mono ?_
        rintro e w3 ⟨rfl, hw3⟩
        obtain ⟨hf0, hf1, hz0, hz1, hbel, hgs3⟩ := FIN.out w3 hw3
        clear hw3 FIN
        go_wp2_with fail
        obtain ⟨c0, c1⟩ := two_set (.bool false) (.string ⟨#[]⟩) hf0 hf1
        obtain ⟨w4, hw4⟩ : ∃ w4, w4 = (w3.setCell ⟨w.heap.size, 0, none⟩ (.bool false)).setCell ⟨w.heap.size, 1, none⟩ (.string ⟨#[]⟩) := ⟨_, rfl⟩
        have hb4 : Below w.heap.size w w4 := by rw [hw4]; exact (hbel.setCell (p := ⟨w.heap.size, 0, none⟩) (Nat.le_refl _) _).setCell (p := ⟨w.heap.size, 1, none⟩) (Nat.le_refl _) _
        rw [← hw4] at c0 c1 ⊢
        clear hw4
        refine bodyPost_ret (by simp [results, Tryd.results20, go_sem, c0, c1]; try rfl) rfl ?_
        exact ⟨rfl, hb4⟩
end Go.Proofs.YtfeikdplfjikeaaDoor
