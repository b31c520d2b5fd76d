/-
  What readParam of package token computes; a text has at most 1000 bytes, and the package variable that the library reads holds some number.
-/
import Derived.Test.YtoccjnbodoiibabDoorWParam
import Derived.Handy
namespace Go.Proofs.YtoccjnbodoiibabDoor
open Go.RowKit

theorem bcell {W w1 : World} (hb : Below W.heap.size W w1) : (∀ b o, b < W.heap.size → w1.cell? ⟨b, o, none⟩ = W.cell? ⟨b, o, none⟩) ∧ (∀ b o, b < W.heap.size → w1.frozen? ⟨b, o, none⟩ = W.frozen? ⟨b, o, none⟩) :=
  ⟨fun b o h => hb.cell (p := ⟨b, o, none⟩) h, fun b o h => hb.frozen (p := ⟨b, o, none⟩) h⟩

theorem cut_at (s a b : ByteArray) (f : Bool) (h : Lib.cut s.data.toList [61] = (a.data.toList, b.data.toList, f)) (m : Int) (w : World) (hm : w.cell? ⟨0, 0, none⟩ = some (.int .i64 m)) (hs : s.size ≤ 1000) :
    Calls Tryd.prog 43 #[.string s, .string ⟨#[61]⟩] w fun e w' => e = .returned (.tuple #[.string a, .string b, .bool f]) ∧ ∃ n, w' = w.drewN n := by
  refine (Tryd.strings_Cut s ⟨#[61]⟩ m w (by omega) hm).mono ?_
  rintro e w' ⟨rfl, hn⟩
  refine ⟨?_, hn⟩
  rw [show Lib.cut s.data.toList (⟨#[61]⟩ : ByteArray).data.toList = (a.data.toList, b.data.toList, f) from h]

theorem rp_nocut (l a b : List UInt8) (h : Lib.cut l [61] = (a, b, false)) : rp l = none := by unfold rp; rw [h]; simp
theorem rp_notok (l a b : List UInt8) (h : Lib.cut l [61] = (a, b, true)) (ht : token a = false) : rp l = none := by unfold rp; rw [h]; simp [ht]
theorem rp_val (l a b : List UInt8) (h : Lib.cut l [61] = (a, b, true)) (ht : token a = true) : rp l = (rv b).map (fun v => (lower a, v)) := by unfold rp; rw [h]; simp [ht]
theorem cut_len (l a b : List UInt8) (f : Bool) (h : Lib.cut l [61] = (a, b, f)) : a.length ≤ l.length ∧ b.length ≤ l.length := by
  unfold Lib.cut at h
  split at h
  · simp only [Prod.mk.injEq] at h
    obtain ⟨rfl, rfl, _⟩ := h
    simp
    omega
  · simp only [Prod.mk.injEq] at h
    obtain ⟨rfl, rfl, _⟩ := h
    simp

theorem drewN_below (B : Nat) (w : World) (n : Nat) : Below B w (w.drewN n) := by
  induction n with
  | zero => exact Below.refl _ _
  | succ n ih => exact ih.drew
theorem drewN_cell (w : World) (n : Nat) (a : Addr) : (w.drewN n).cell? a = w.cell? a := by
  induction n with
  | zero => rfl
  | succ n ih => exact ih
theorem drewN_frozen (w : World) (n : Nat) (a : Addr) : (w.drewN n).frozen? a = w.frozen? a := by
  induction n with
  | zero => rfl
  | succ n ih => exact ih
theorem new_free (w : World) (cs : Array Value) (t : TypeId) (j : Nat) : (w.alloc (.cells cs t)).frozen? ⟨w.heap.size, j, none⟩ = false :=
  Lib.frozen_of_heap (heap_alloc_new w (.cells cs t)) j
theorem drewN_size (w : World) (n : Nat) : (w.drewN n).heap.size = w.heap.size := by
  induction n with
  | zero => rfl
  | succ n ih => exact ih

set_option maxHeartbeats 1000000 in
set_option maxRecDepth 100000 in
theorem readParam_no (s : ByteArray) (h : rp s.data.toList = none) (m : Int) (w : World) (hm : w.cell? ⟨0, 0, none⟩ = some (.int .i64 m)) (hs : s.size ≤ 1000) :
    Calls Tryd.prog 27 #[.string s] w fun e w' => e = .returned (.tuple #[.agg #[.string ⟨#[]⟩, .string ⟨#[]⟩], .bool false]) ∧ Below w.heap.size w w' := by
  obtain ⟨a, b, f, hc⟩ : ∃ (a b : ByteArray) (f : Bool), Lib.cut s.data.toList [61] = (a.data.toList, b.data.toList, f) := ⟨⟨(Lib.cut s.data.toList [61]).1.toArray⟩, ⟨(Lib.cut s.data.toList [61]).2.1.toArray⟩, (Lib.cut s.data.toList [61]).2.2, rfl⟩
  have HC : Hid (Lib.cut s.data.toList [61] = (a.data.toList, b.data.toList, f)) := hc
  obtain ⟨hal, hbl⟩ := cut_len _ _ _ _ hc
  rw [size_list, size_list] at hal hbl
  have HM : Hid ((w.alloc (.cells #[.string ⟨#[]⟩, .string ⟨#[]⟩] 28)).cell? ⟨0, 0, none⟩ = some (.int .i64 m)) := by
    show _ = _
    rw [World.cell?_alloc_lt _ _ _ (cell_in hm)]; exact hm
  have HZ : Hid (a.size ≤ maxLen) := by show a.size ≤ maxLen; unfold maxLen; omega
  clear hm
  cases f
  · clear hc
    go_enter Tryd.func27, Tryd.ntmps27
    go_wp2_with fail
    refine (cut_at _ a b false HC.out m _ HM.out hs).mono ?_
    rintro e w1 ⟨rfl, nd, rfl⟩
    go_wp2_with fail
    refine bodyPost_ret (v := .tuple #[.agg #[.string ⟨#[]⟩, .string ⟨#[]⟩], .bool false]) (by simp [results, Tryd.results27, go_sem]) rfl ⟨rfl, ?_⟩
    exact ((((Below.refl _ w).alloc (Nat.le_refl _) _).trans (drewN_below _ _ _)).setCell (p := ⟨w.heap.size, 0, none⟩) (Nat.le_refl _) _).setCell (p := ⟨w.heap.size, 1, none⟩) (Nat.le_refl _) _
  · cases ht : token a.data.toList
    · have HT : Hid (token a.data.toList = false) := ht
      clear hc ht
      go_enter Tryd.func27, Tryd.ntmps27
      go_wp2_with fail
      refine (cut_at _ a b true HC.out m _ HM.out hs).mono ?_
      rintro e w1 ⟨rfl, nd, rfl⟩
      go_wp2_with fail
      refine (isToken_any _ _ HZ.out).mono ?_
      rintro e w2 ⟨rfl, rfl⟩
      rw [HT.out]
      go_wp2_with fail
      refine bodyPost_ret (v := .tuple #[.agg #[.string ⟨#[]⟩, .string ⟨#[]⟩], .bool false]) (by simp [results, Tryd.results27, go_sem]) rfl ⟨rfl, ?_⟩
      exact ((((Below.refl _ w).alloc (Nat.le_refl _) _).trans (drewN_below _ _ _)).setCell (p := ⟨w.heap.size, 0, none⟩) (Nat.le_refl _) _).setCell (p := ⟨w.heap.size, 1, none⟩) (Nat.le_refl _) _
    · have HT : Hid (token a.data.toList = true) := ht
      have HV : Hid (rv b.data.toList = none) := by
        show _ = _
        rw [rp_val _ _ _ hc ht] at h
        simpa using h
      clear hc ht h
      go_enter Tryd.func27, Tryd.ntmps27
      go_wp2_with fail
      refine (cut_at _ a b true HC.out m _ HM.out hs).mono ?_
      rintro e w1 ⟨rfl, nd, rfl⟩
      go_wp2_with fail
      refine (isToken_any _ _ HZ.out).mono ?_
      rintro e w2 ⟨rfl, rfl⟩
      rw [HT.out]
      go_wp2_with fail
      refine (readValue_at _ ⟨#[]⟩ false (.inr ⟨rfl, HV.out, rfl⟩) _ (by omega)).mono ?_
      rintro e w3 ⟨rfl, hb⟩
      have hbw : Below w.heap.size w w3 := (((Below.refl _ w).alloc (Nat.le_refl _) _).trans (drewN_below _ _ nd)).trans (hb.mono (by rw [drewN_size]; simp))
      have hc0 : w3.cell? ⟨w.heap.size, 0, none⟩ = some (.string ⟨#[]⟩) := by
        rw [hb.cell (p := ⟨w.heap.size, 0, none⟩) (by rw [drewN_size]; simp), drewN_cell]; simp
      have hc1 : w3.cell? ⟨w.heap.size, 1, none⟩ = some (.string ⟨#[]⟩) := by
        rw [hb.cell (p := ⟨w.heap.size, 1, none⟩) (by rw [drewN_size]; simp), drewN_cell]; simp
      have hf0 : w3.frozen? ⟨w.heap.size, 0, none⟩ = false := by
        rw [hb.frozen (p := ⟨w.heap.size, 0, none⟩) (by rw [drewN_size]; simp), drewN_frozen]; exact new_free _ _ _ _
      have hf1 : w3.frozen? ⟨w.heap.size, 1, none⟩ = false := by
        rw [hb.frozen (p := ⟨w.heap.size, 1, none⟩) (by rw [drewN_size]; simp), drewN_frozen]; exact new_free _ _ _ _
      have hsz : w.heap.size < w3.heap.size := by have := hb.size; rw [drewN_size] at this; simp at this; omega
      clear hb
      go_wp2_with fail
      refine bodyPost_ret (v := .tuple #[.agg #[.string ⟨#[]⟩, .string ⟨#[]⟩], .bool false]) (by simp [results, Tryd.results27, go_sem, hc0, hc1]) rfl ⟨rfl, ?_⟩
      exact (hbw.setCell (p := ⟨w.heap.size, 0, none⟩) (Nat.le_refl _) _).setCell (p := ⟨w.heap.size, 1, none⟩) (Nat.le_refl _) _

set_option maxHeartbeats 1000000 in
set_option maxRecDepth 100000 in
theorem readParam_yes (s x y : ByteArray) (h : rp s.data.toList = some (x.data.toList, y.data.toList)) (m : Int) (w : World) (hm : w.cell? ⟨0, 0, none⟩ = some (.int .i64 m)) (hs : s.size ≤ 1000) :
    Calls Tryd.prog 27 #[.string s] w fun e w' => e = .returned (.tuple #[.agg #[.string x, .string y], .bool true]) ∧ Below w.heap.size w w' := by
  obtain ⟨a, b, f, hc⟩ : ∃ (a b : ByteArray) (f : Bool), Lib.cut s.data.toList [61] = (a.data.toList, b.data.toList, f) := ⟨⟨(Lib.cut s.data.toList [61]).1.toArray⟩, ⟨(Lib.cut s.data.toList [61]).2.1.toArray⟩, (Lib.cut s.data.toList [61]).2.2, rfl⟩
  have HC : Hid (Lib.cut s.data.toList [61] = (a.data.toList, b.data.toList, f)) := hc
  obtain ⟨hal, hbl⟩ := cut_len _ _ _ _ hc
  rw [size_list, size_list] at hal hbl
  have HM : Hid ((w.alloc (.cells #[.string ⟨#[]⟩, .string ⟨#[]⟩] 28)).cell? ⟨0, 0, none⟩ = some (.int .i64 m)) := by
    show _ = _
    rw [World.cell?_alloc_lt _ _ _ (cell_in hm)]; exact hm
  have HZ : Hid (a.size ≤ maxLen) := by show a.size ≤ maxLen; unfold maxLen; omega
  clear hm
  cases f
  · rw [rp_nocut _ _ _ hc] at h; cases h
  · cases ht : token a.data.toList
    · rw [rp_notok _ _ _ hc ht] at h; cases h
    · have HT : Hid (token a.data.toList = true) := ht
      have hv : rv b.data.toList = some y.data.toList ∧ lower a.data.toList = x.data.toList := by
        rw [rp_val _ _ _ hc ht] at h
        cases hr : rv b.data.toList with
        | none => rw [hr] at h; cases h
        | some v =>
          rw [hr] at h
          simp only [Option.map_some, Option.some.injEq, Prod.mk.injEq] at h
          rw [h.2]; exact ⟨rfl, h.1⟩
      have HV : Hid (rv b.data.toList = some y.data.toList) := hv.1
      have HX : Hid ((⟨(lower a.data.toList).toArray⟩ : ByteArray) = x) := by show _ = _; exact mk_self x _ hv.2.symm
      clear hc ht h hv
      go_enter Tryd.func27, Tryd.ntmps27
      go_wp2_with fail
      refine (cut_at _ a b true HC.out m _ HM.out hs).mono ?_
      rintro e w1 ⟨rfl, nd, rfl⟩
      go_wp2_with fail
      refine (isToken_any _ _ HZ.out).mono ?_
      rintro e w2 ⟨rfl, rfl⟩
      rw [HT.out]
      go_wp2_with fail
      refine (readValue_at _ y true (.inl ⟨rfl, HV.out⟩) _ (by omega)).mono ?_
      rintro e w3 ⟨rfl, hb3⟩
      go_wp2_with fail
      refine (lower_any _ _ (by omega)).mono ?_
      rintro e w4 ⟨rfl, hb4⟩
      rw [HX.out]
      have hb : Below ((w.alloc (.cells #[.string ⟨#[]⟩, .string ⟨#[]⟩] 28)).drewN nd).heap.size ((w.alloc (.cells #[.string ⟨#[]⟩, .string ⟨#[]⟩] 28)).drewN nd) w4 := hb3.trans (hb4.mono hb3.size)
      clear hb3 hb4
      have hbw : Below w.heap.size w w4 := (((Below.refl _ w).alloc (Nat.le_refl _) _).trans (drewN_below _ _ nd)).trans (hb.mono (by rw [drewN_size]; simp))
      have hc0 : w4.cell? ⟨w.heap.size, 0, none⟩ = some (.string ⟨#[]⟩) := by
        rw [hb.cell (p := ⟨w.heap.size, 0, none⟩) (by rw [drewN_size]; simp), drewN_cell]; simp
      have hc1 : w4.cell? ⟨w.heap.size, 1, none⟩ = some (.string ⟨#[]⟩) := by
        rw [hb.cell (p := ⟨w.heap.size, 1, none⟩) (by rw [drewN_size]; simp), drewN_cell]; simp
      have hf0 : w4.frozen? ⟨w.heap.size, 0, none⟩ = false := by
        rw [hb.frozen (p := ⟨w.heap.size, 0, none⟩) (by rw [drewN_size]; simp), drewN_frozen]; exact new_free _ _ _ _
      have hf1 : w4.frozen? ⟨w.heap.size, 1, none⟩ = false := by
        rw [hb.frozen (p := ⟨w.heap.size, 1, none⟩) (by rw [drewN_size]; simp), drewN_frozen]; exact new_free _ _ _ _
      have hsz : w.heap.size < w4.heap.size := by have := hb.size; rw [drewN_size] at this; simp at this; omega
      clear hb
      go_wp2_with fail
      refine bodyPost_ret (v := .tuple #[.agg #[.string x, .string y], .bool true]) (by simp [results, Tryd.results27, go_sem, hc0, hc1]) rfl ⟨rfl, ?_⟩
      exact (hbw.setCell (p := ⟨w.heap.size, 0, none⟩) (Nat.le_refl _) _).setCell (p := ⟨w.heap.size, 1, none⟩) (Nat.le_refl _) _
end Go.Proofs.YtoccjnbodoiibabDoor
