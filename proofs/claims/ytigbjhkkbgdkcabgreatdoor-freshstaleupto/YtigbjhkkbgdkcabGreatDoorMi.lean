/-
  The walk through FreshLater: it answers true and turns nothing that was there. The lists hold at most 2^20 letters and values, and the listed variables hold what their text lays.
-/
import Derived.Test.YtigbjhkkbgdkcabGreatDoorMh
namespace Go.Proofs.YtigbjhkkbgdkcabGreatDoor
open Go.RowKit

set_option maxHeartbeats 8000000 in
set_option maxRecDepth 100000 in
theorem walkFreshLater (av : Value) (ks : List Fld) (v0 v1 v2 v3 v5 v7 v10 fv : Value) (l0 : List Fld) (c o m : Int) (a2 a3 : Int) (w : World) (za : Fl w av ks) (ba : bulkF ks ≤ 1048576) (z0 : Fl w fv l0) (b0 : bulkF l0 ≤ 1048576) (z2 : (Lit.int .i64 a2).wf = true) (z3 : (Lit.int .i64 a3).wf = true) (ht : DTabs w) :
    Calls Tryz.prog 8 #[av, .agg #[v0, v1, v2, v3, .int .i64 c, v5, fv, v7, .int .i64 o, .int .i64 m, v10], .int .i64 a2, .int .i64 a3] w fun e w' => e = .returned (.bool true) ∧ Below w.heap.size w w' := by
  obtain ⟨D, hD⟩ := dfn_ex
  have hb0 : Below w.heap.size w (w.alloc (.cells #[v0, v1, v2, v3, .int .i64 c, v5, fv, v7, .int .i64 o, .int .i64 m, v10] 28)) := (Below.refl _ w).alloc (Nat.le_refl _) _
  have HALL : Hid (∀ W : World, Below (w.alloc (.cells #[v0, v1, v2, v3, .int .i64 c, v5, fv, v7, .int .i64 o, .int .i64 m, v10] 28)).heap.size (w.alloc (.cells #[v0, v1, v2, v3, .int .i64 c, v5, fv, v7, .int .i64 o, .int .i64 m, v10] 28)) W →
      Cells11 W w.heap.size v0 v1 v2 v3 (.int .i64 c) v5 fv v7 (.int .i64 o) (.int .i64 m) v10 ∧ Below w.heap.size w W ∧ Fl W fv l0 ∧ DTabs W ∧ Fl W av ks) := fun W h => by
    have hB := hb0.trans (h.mono hb0.size)
    exact ⟨eleven h, hB, z0.below hB, ht.below hB, za.below hB⟩
  obtain ⟨y, ey⟩ : ∃ n, restV a2 1099511627776 = n := ⟨_, rfl⟩
  have hiy := restV_in a2 1099511627776 (by omega)
  rw [ey] at hiy
  obtain ⟨y0, y1⟩ := hiy
  have HRy : Hid (∀ W : World, Calls Tryz.prog 15 #[.int .i64 a2, .int .i64 1099511627776] W fun e w' => e = .returned (.int .i64 y) ∧ w' = W) := fun W => by rw [← ey]; exact rest_is a2 1099511627776 (by omega) (by omega) z2 W
  obtain ⟨k, ek⟩ : ∃ n, restV a3 1099511627776 = n := ⟨_, rfl⟩
  have hik := restV_in a3 1099511627776 (by omega)
  rw [ek] at hik
  obtain ⟨k0, k1⟩ := hik
  have HRk : Hid (∀ W : World, Calls Tryz.prog 15 #[.int .i64 a3, .int .i64 1099511627776] W fun e w' => e = .returned (.int .i64 k) ∧ w' = W) := fun W => by rw [← ek]; exact rest_is a3 1099511627776 (by omega) (by omega) z3 W
  obtain ⟨life, elf⟩ : ∃ n, lifeP D l0 c m = n := ⟨_, rfl⟩
  have hl := life_in D l0 c m
  rw [elf] at hl
  obtain ⟨hl0, hl1⟩ := hl
  obtain ⟨U, eU⟩ : ∃ n, useP (ctl ks) (ctl l0) life (ageP D l0 o m y) = n := ⟨_, rfl⟩
  obtain ⟨V, eV⟩ : ∃ n, useP (ctl ks) (ctl l0) life (ageP D l0 o m (y + k)) = n := ⟨_, rfl⟩
  have hg := (age_grows D l0 o m y k k0 y0).1
  have hu := use_in (ctl ks) (ctl l0) life (ageP D l0 o m y)
  have hv := use_later (ctl ks) (ctl l0) life _ _ hg
  rw [eU] at hu hv
  rw [eV] at hv
  have huv : U = 1 ∨ (U = 2 ∧ V = 2) ∨ (U = 3 ∧ V = 3) := by omega
  have HL1 : Hid (∀ W : World, Fl W av ks → Fl W fv l0 → DTabs W → Calls Tryz.prog 13 #[av, .agg #[v0, v1, v2, v3, .int .i64 c, v5, fv, v7, .int .i64 o, .int .i64 m, v10], .int .i64 y] W fun e w' => e = .returned (.int .i64 U) ∧ Below W.heap.size W w') := fun W hA hW hM => by
    rw [← eU, ← elf]
    exact fuse_at D hD av ks v0 v1 v2 v3 v5 v7 v10 fv l0 c o m y W hA (Nat.le_trans ba (by decide)) hW (Nat.le_trans b0 (by decide)) hM
  have HL2 : Hid (∀ W : World, Fl W av ks → Fl W fv l0 → DTabs W → Calls Tryz.prog 13 #[av, .agg #[v0, v1, v2, v3, .int .i64 c, v5, fv, v7, .int .i64 o, .int .i64 m, v10], .int .i64 (y + k)] W fun e w' => e = .returned (.int .i64 V) ∧ Below W.heap.size W w') := fun W hA hW hM => by
    rw [← eV, ← elf]
    exact fuse_at D hD av ks v0 v1 v2 v3 v5 v7 v10 fv l0 c o m (y + k) W hA (Nat.le_trans ba (by decide)) hW (Nat.le_trans b0 (by decide)) hM
  have HLF : Hid (∀ W : World, Fl W fv l0 → DTabs W → Calls Tryz.prog 9 #[.agg #[v0, v1, v2, v3, .int .i64 c, v5, fv, v7, .int .i64 o, .int .i64 m, v10]] W fun e w' => e = .returned (.int .i64 life) ∧ Below W.heap.size W w') := fun W hW hM => by
    rw [← elf]
    exact flife_at D hD v0 v1 v2 v3 v5 v7 _ v10 fv l0 c m W hW (Nat.le_trans b0 (by decide)) hM
  obtain ⟨ad, cap, hv, hnc, hcm, hcx⟩ := id z0
  subst hv
  unfold maxLen at hcm
  obtain ⟨ad', cap', hv', hnc', hcm', hcx'⟩ := id za
  subst hv'
  unfold maxLen at hcm'
  clear hcx hcx' za z0 ba b0 hb0 ht eU eV elf ey ek z2 z3 hu hv hg
  obtain ⟨T, G, x0, hx0, HG1, HG2, HG3⟩ := below_class (w.alloc (.cells #[v0, v1, v2, v3, .int .i64 c, v5, .slice ad l0.length cap, v7, .int .i64 o, .int .i64 m, v10] 28))
  haveI : Nonempty T := ⟨x0⟩
  have HBG : Hid (∀ x, Below (w.alloc (.cells #[v0, v1, v2, v3, .int .i64 c, v5, .slice ad l0.length cap, v7, .int .i64 o, .int .i64 m, v10] 28)).heap.size (w.alloc (.cells #[v0, v1, v2, v3, .int .i64 c, v5, .slice ad l0.length cap, v7, .int .i64 o, .int .i64 m, v10] 28)) (G x)) := fun x => by rw [hx0]; exact HG1.out x
  have hall := fun x => (HALL.out _ (HBG.out x)).1
  have hc0 : ∀ x, (G x).cell? ⟨w.heap.size, 0, none⟩ = some v0 := fun x => (hall x).1
  have hc1 : ∀ x, (G x).cell? ⟨w.heap.size, 1, none⟩ = some v1 := fun x => (hall x).2.1
  have hc2 : ∀ x, (G x).cell? ⟨w.heap.size, 2, none⟩ = some v2 := fun x => (hall x).2.2.1
  have hc3 : ∀ x, (G x).cell? ⟨w.heap.size, 3, none⟩ = some v3 := fun x => (hall x).2.2.2.1
  have hc4 : ∀ x, (G x).cell? ⟨w.heap.size, 4, none⟩ = some (.int .i64 c) := fun x => (hall x).2.2.2.2.1
  have hc5 : ∀ x, (G x).cell? ⟨w.heap.size, 5, none⟩ = some v5 := fun x => (hall x).2.2.2.2.2.1
  have hc6 : ∀ x, (G x).cell? ⟨w.heap.size, 6, none⟩ = some (.slice ad l0.length cap) := fun x => (hall x).2.2.2.2.2.2.1
  have hc7 : ∀ x, (G x).cell? ⟨w.heap.size, 7, none⟩ = some v7 := fun x => (hall x).2.2.2.2.2.2.2.1
  have hc8 : ∀ x, (G x).cell? ⟨w.heap.size, 8, none⟩ = some (.int .i64 o) := fun x => (hall x).2.2.2.2.2.2.2.2.1
  have hc9 : ∀ x, (G x).cell? ⟨w.heap.size, 9, none⟩ = some (.int .i64 m) := fun x => (hall x).2.2.2.2.2.2.2.2.2.1
  have hc10 : ∀ x, (G x).cell? ⟨w.heap.size, 10, none⟩ = some v10 := fun x => (hall x).2.2.2.2.2.2.2.2.2.2
  clear hall
  have HX1 : Hid (∀ x, Calls Tryz.prog 13 #[.slice ad' ks.length cap', .agg #[v0, v1, v2, v3, .int .i64 c, v5, .slice ad l0.length cap, v7, .int .i64 o, .int .i64 m, v10], .int .i64 y] (G x) fun e w' => e = .returned (.int .i64 U) ∧ ∃ y, w' = G y) := fun x => (HL1.out _ (HALL.out _ (HBG.out x)).2.2.2.2 (HALL.out _ (HBG.out x)).2.2.1 (HALL.out _ (HBG.out x)).2.2.2.1).mono fun e W h => ⟨h.1, HG2.out _ W h.2⟩
  have HX2 : Hid (∀ x, Calls Tryz.prog 13 #[.slice ad' ks.length cap', .agg #[v0, v1, v2, v3, .int .i64 c, v5, .slice ad l0.length cap, v7, .int .i64 o, .int .i64 m, v10], .int .i64 (y + k)] (G x) fun e w' => e = .returned (.int .i64 V) ∧ ∃ y, w' = G y) := fun x => (HL2.out _ (HALL.out _ (HBG.out x)).2.2.2.2 (HALL.out _ (HBG.out x)).2.2.1 (HALL.out _ (HBG.out x)).2.2.2.1).mono fun e W h => ⟨h.1, HG2.out _ W h.2⟩
  go_enter Tryz.func8, Tryz.ntmps8
  go_wp2_with fail
  try rw [hx0]
  refine (HRy.out _).mono ?_
  rintro e w1 ⟨rfl, rfl⟩
  go_wp2_with fail
  refine (HRk.out _).mono ?_
  rintro e w1 ⟨rfl, rfl⟩
  go_upto_region 2 with fail
  refine region_in G (by kernel_rfl) (by kernel_rfl) (HG3.out _) ?_
  repeat (go_big_quiet_step (first
    | (go_at_call 13; with_reducible first | exact HX1.out _ | exact HX2.out _)))
  refine wpQuiet_nil ?_
  rintro _ ⟨x1, rfl⟩
  clear hc0 hc1 hc2 hc3 hc4 hc5 hc6 hc7 hc8 hc9 hc10
  go_wp2_with fail
  refine (anch_any D hD _ (HALL.out _ (HBG.out x1)).2.2.2.1).mono ?_
  rintro e w2 ⟨rfl, hb2⟩
  have HB2 : Hid (Below (w.alloc (.cells #[v0, v1, v2, v3, .int .i64 c, v5, .slice ad l0.length cap, v7, .int .i64 o, .int .i64 m, v10] 28)).heap.size (w.alloc (.cells #[v0, v1, v2, v3, .int .i64 c, v5, .slice ad l0.length cap, v7, .int .i64 o, .int .i64 m, v10] 28)) w2) := (HBG.out x1).trans (hb2.mono (HBG.out x1).size)
  obtain ⟨⟨c0, c1, c2, c3, c4, c5, c6, c7, c8, c9, c10⟩, hBw, hF2, hM2, _⟩ := HALL.out _ HB2.out
  have HF2 : Hid (Fl w2 (.slice ad l0.length cap) l0) := hF2
  have HM2 : Hid (DTabs w2) := hM2
  clear hb2 hF2 hM2 hBw
  rcases huv with rfl | ⟨rfl, rfl⟩ | ⟨rfl, rfl⟩
  all_goals
    go_wp2_with fail
    refine (HLF.out _ HF2.out HM2.out).mono ?_
    rintro e w3 ⟨rfl, hb3⟩
    have HB3 : Hid (Below (w.alloc (.cells #[v0, v1, v2, v3, .int .i64 c, v5, .slice ad l0.length cap, v7, .int .i64 o, .int .i64 m, v10] 28)).heap.size (w.alloc (.cells #[v0, v1, v2, v3, .int .i64 c, v5, .slice ad l0.length cap, v7, .int .i64 o, .int .i64 m, v10] 28)) w3) := HB2.out.trans (hb3.mono HB2.out.size)
    clear hb3 c0 c1 c2 c3 c4 c5 c6 c7 c8 c9 c10
    obtain ⟨⟨c0, c1, c2, c3, c4, c5, c6, c7, c8, c9, c10⟩, hBw, hF3, hM3, _⟩ := HALL.out _ HB3.out
    have HF3 : Hid (Fl w3 (.slice ad l0.length cap) l0) := hF3
    have HM3 : Hid (DTabs w3) := hM3
    clear hF3 hM3 hBw
    go_wp2_with fail
    refine (HLF.out _ HF3.out HM3.out).mono ?_
    rintro e w4 ⟨rfl, hb4⟩
    have HB4 : Hid (Below (w.alloc (.cells #[v0, v1, v2, v3, .int .i64 c, v5, .slice ad l0.length cap, v7, .int .i64 o, .int .i64 m, v10] 28)).heap.size (w.alloc (.cells #[v0, v1, v2, v3, .int .i64 c, v5, .slice ad l0.length cap, v7, .int .i64 o, .int .i64 m, v10] 28)) w4) := HB3.out.trans (hb4.mono HB3.out.size)
    clear hb4 c0 c1 c2 c3 c4 c5 c6 c7 c8 c9 c10
    go_wp2_with fail
    go_ret
    exact ⟨by first | rfl | simp, (HALL.out _ HB4.out).2.1⟩
end Go.Proofs.YtigbjhkkbgdkcabGreatDoor

/-
  What but of package field hands back: a function of a field that answers the other way; what it answers in whatever later world.
-/
namespace Go.Proofs.YtigbjhkkbgdkcabGreatDoor
open Go.RowKit

set_option maxHeartbeats 1000000 in
set_option maxRecDepth 100000 in
theorem but1_any (n u : ByteArray) (B g : Nat) (lb : Array Value) (b : Bool) (w : World) (hc : w.cell? ⟨B, 0, none⟩ = some (.func (.func g) #[] lb)) (eg : ∀ args w, (callFunc g args).run Tryz.prog w = .ok (.enter g args) w)
    (hcall : ∀ W, Below w.heap.size w W → Calls Tryz.prog g (#[.agg #[.string n, .string u]] ++ lb) W fun e w' => e = .returned (.bool b) ∧ Below W.heap.size W w') :
    Calls Tryz.prog 60 #[.agg #[.string n, .string u], .pointer (some ⟨B, 0, none⟩)] w fun e w' => e = .returned (.bool (!b)) ∧ Below w.heap.size w w' := by
  have hBs : B < w.heap.size := cell_in hc
  have HC : Hid (∀ W, Below w.heap.size w W → Calls Tryz.prog g (#[.agg #[.string n, .string u]] ++ lb) W fun e w' => e = .returned (.bool b) ∧ Below W.heap.size W w') := hcall
  clear hcall
  go_enter Tryz.func60, Tryz.ntmps60
  go_wp2_with (go_at_fn g; refine (HC.out _ ((Below.refl _ w).alloc (Nat.le_refl _) _)).mono ?_; rintro e w1 ⟨rfl, hb⟩)
  go_ret
  exact ⟨rfl, ((Below.refl _ w).alloc (Nat.le_refl _) _).trans (hb.mono (by simp))⟩

set_option maxHeartbeats 1000000 in
set_option maxRecDepth 100000 in
theorem but_any (f : Value) (p : Fld → Bool) (w : World) (hp : Pred w f p) :
    Calls Tryz.prog 44 #[f] w fun e w' => ∃ f', e = .returned f' ∧ Pred w' f' (fun x => !p x) ∧ Below w.heap.size w w' := by
  have hmf : ∀ (fn : Fn) (first cap : Array Value) (w : World), (Instr.makeFunc fn first cap).run Tryz.prog w = .ok (.func fn first cap) w := fun _ _ _ _ => rfl
  have HP : Hid (Pred w f p) := hp
  obtain ⟨g, lb, hf, eg, _⟩ := hp
  subst hf
  go_enter Tryz.func44, Tryz.ntmps44
  go_wp2_with fail
  go_ret
  refine ⟨_, rfl, ⟨60, _, rfl, enters_of Tryz.func60 (by kernel_rfl) rfl, fun W n u hW hn => ?_⟩, (Below.refl _ w).alloc (Nat.le_refl _) _⟩
  obtain ⟨g', lb', hf', eg', hc'⟩ := HP.out
  simp only [Value.func.injEq, Fn.func.injEq] at hf'
  obtain ⟨rfl, _, rfl⟩ := hf'
  have hWw : Below w.heap.size w W := ((Below.refl _ w).alloc (Nat.le_refl _) _).trans (hW.mono (by simp))
  refine but1_any n u w.heap.size g lb _ W ?_ eg fun W' hW' => hc' W' n u (hWw.trans (hW'.mono hWw.size)) hn
  exact (hW.cell (p := ⟨w.heap.size, 0, none⟩) (by simp)).trans (by simp)
end Go.Proofs.YtigbjhkkbgdkcabGreatDoor

/-
  What Drop of package field computes; lists and texts are no longer than Go allows.
-/
namespace Go.Proofs.YtigbjhkkbgdkcabGreatDoor
open Go.RowKit

set_option maxHeartbeats 2000000 in
set_option maxRecDepth 100000 in
theorem drop_any (v : Value) (ls : List Fld) (s : ByteArray) (w : World) (hf : Fl w v ls) (hl : Wide ls) (hs : s.size ≤ 140737488351232) :
    Calls Tryz.prog 17 #[v, .string s] w fun e w' => ∃ v', e = .returned v' ∧ w'.ownsRow w.heap.size 70 2 v' (rest1 s.data.toList ls).length (flds (rest1 s.data.toList ls)) ∧ Below w.heap.size w w' := by
  have HF : Hid (Fl w v ls) := hf
  have HL : Hid (Wide ls) := hl
  clear hf hl
  go_enter Tryz.func17, Tryz.ntmps17
  go_wp2_with fail
  refine (named_any s _ hs).mono ?_
  rintro e w1 ⟨f, rfl, hp1, hb1⟩
  have HP1 : Hid (Pred w1 f (fun x => lower x.1 == lower s.data.toList)) := hp1
  clear hp1
  go_wp2_with fail
  refine (but_any f _ _ HP1.out).mono ?_
  rintro e w2 ⟨f2, rfl, hp2, hb2⟩
  have HP2 : Hid (Pred w2 f2 (fun x => !(lower x.1 == lower s.data.toList))) := hp2
  have hw2 := hb1.trans (hb2.mono hb1.size)
  clear hp2 hb2 hb1
  go_wp2_with fail
  refine (pick_any _ _ ls _ _ (HF.out.below hw2) HL.out HP2.out).mono ?_
  rintro e w3 ⟨v3, rfl, hown3, hb3⟩
  have hw3 := hw2.trans (hb3.mono hw2.size)
  go_wp2_with fail
  go_ret
  exact ⟨_, rfl, own_le hown3 hw2.size, hw3⟩
end Go.Proofs.YtigbjhkkbgdkcabGreatDoor

/-
  The walk through FreshStale: it answers true and turns nothing that was there. The lists hold at most 2^20 letters and values, and the listed variables hold what their text lays.
-/
namespace Go.Proofs.YtigbjhkkbgdkcabGreatDoor
open Go.RowKit

theorem bulk_rest (s : List UInt8) (ls : List Fld) : bulkF (rest1 s ls) ≤ bulkF ls := by
  unfold rest1
  induction ls with
  | nil => exact Nat.le_refl _
  | cons a ls ih =>
    rw [List.filter_cons]
    simp only [bulkF, List.map_cons, List.sum_cons] at ih ⊢
    split
    · simp only [List.map_cons, List.sum_cons]; omega
    · omega
set_option maxHeartbeats 8000000 in
set_option maxRecDepth 100000 in
theorem walkFreshStale (av : Value) (ks : List Fld) (v0 v1 v2 v3 v5 v7 v10 fv : Value) (l0 : List Fld) (c o m : Int) (a2 : Int) (w : World) (za : Fl w av ks) (ba : bulkF ks ≤ 1048576) (z0 : Fl w fv l0) (b0 : bulkF l0 ≤ 1048576) (_z2 : (Lit.int .i64 a2).wf = true) (ht : DTabs w) :
    Calls Tryz.prog 7 #[av, .agg #[v0, v1, v2, v3, .int .i64 c, v5, fv, v7, .int .i64 o, .int .i64 m, v10], .int .i64 a2] w fun e w' => e = .returned (.bool true) ∧ Below w.heap.size w w' := by
  obtain ⟨D, hD⟩ := dfn_ex
  have hb0 : Below w.heap.size w (w.alloc (.cells #[v0, v1, v2, v3, .int .i64 c, v5, fv, v7, .int .i64 o, .int .i64 m, v10] 28)) := (Below.refl _ w).alloc (Nat.le_refl _) _
  have HALL : Hid (∀ W : World, Below (w.alloc (.cells #[v0, v1, v2, v3, .int .i64 c, v5, fv, v7, .int .i64 o, .int .i64 m, v10] 28)).heap.size (w.alloc (.cells #[v0, v1, v2, v3, .int .i64 c, v5, fv, v7, .int .i64 o, .int .i64 m, v10] 28)) W →
      Cells11 W w.heap.size v0 v1 v2 v3 (.int .i64 c) v5 fv v7 (.int .i64 o) (.int .i64 m) v10 ∧ Below w.heap.size w W ∧ Fl W fv l0 ∧ DTabs W) := fun W h => by
    have hB := hb0.trans (h.mono hb0.size)
    exact ⟨eleven h, hB, z0.below hB, ht.below hB⟩
  obtain ⟨M, hM⟩ : ∃ M, M = rest1 nCC ks := ⟨_, rfl⟩
  have HM : Hid (rest1 (⟨#[67, 97, 99, 104, 101, 45, 67, 111, 110, 116, 114, 111, 108]⟩ : ByteArray).data.toList ks = M) := hM.symm
  have hbM : bulkF M ≤ 1048576 := by rw [hM]; exact Nat.le_trans (bulk_rest _ _) ba
  have hcM : ctl M = [] := by
    have h : vals M nCC = [] := by rw [hM]; exact vals_rest _ _
    unfold ctl gv
    rw [h]; rfl
  have HWK : Hid (Wide ks) := wide_fr ks (by omega)
  have HWL : Hid (Wide l0) := wide_fr l0 (by omega)
  obtain ⟨life, elf⟩ : ∃ n, lifeP D l0 c m = n := ⟨_, rfl⟩
  obtain ⟨age, eag⟩ : ∃ n, ageP D l0 o m a2 = n := ⟨_, rfl⟩
  obtain ⟨nc, enc⟩ : ∃ b, hasK (ctl l0) dNC = b := ⟨_, rfl⟩
  have hus := use_bare (ctl l0) life age
  rw [enc] at hus
  have h3 : (useP [] (ctl l0) life age = 1 ∧ age < life) ∨ (useP [] (ctl l0) life age = 2 ∧ ¬ age < life) ∨ (useP [] (ctl l0) life age = 2 ∧ age < life ∧ nc = true) := by
    rw [hus]
    by_cases h : age < life
    · cases nc <;> simp [h]
    · simp [h]
  obtain ⟨U, eU⟩ : ∃ n, useP [] (ctl l0) life age = n := ⟨_, rfl⟩
  rw [eU] at h3
  have HUS : Hid (∀ (mv : Value) (W : World), Fl W mv M → Fl W fv l0 → DTabs W → Calls Tryz.prog 13 #[mv, .agg #[v0, v1, v2, v3, .int .i64 c, v5, fv, v7, .int .i64 o, .int .i64 m, v10], .int .i64 a2] W fun e w' => e = .returned (.int .i64 U) ∧ Below W.heap.size W w') := fun mv W hA hW hT => by
    rw [← eU, ← elf, ← eag, ← hcM]
    exact fuse_at D hD mv M v0 v1 v2 v3 v5 v7 v10 fv l0 c o m a2 W hA (Nat.le_trans hbM (by decide)) hW (Nat.le_trans b0 (by decide)) hT
  have HLF : Hid (∀ W : World, Fl W fv l0 → DTabs W → Calls Tryz.prog 9 #[.agg #[v0, v1, v2, v3, .int .i64 c, v5, fv, v7, .int .i64 o, .int .i64 m, v10]] W fun e w' => e = .returned (.int .i64 life) ∧ Below W.heap.size W w') := fun W hW hM => by
    rw [← elf]
    exact flife_at D hD v0 v1 v2 v3 v5 v7 _ v10 fv l0 c m W hW (Nat.le_trans b0 (by decide)) hM
  have HAG : Hid (∀ W : World, Fl W fv l0 → DTabs W → Calls Tryz.prog 11 #[.agg #[v0, v1, v2, v3, .int .i64 c, v5, fv, v7, .int .i64 o, .int .i64 m, v10], .int .i64 a2] W fun e w' => e = .returned (.int .i64 age) ∧ Below W.heap.size W w') := fun W hW hM => by
    rw [← eag]
    exact fage_at D hD v0 v1 v2 v3 _ v5 v7 v10 fv l0 o m a2 W hW (Nat.le_trans b0 (by decide)) hM
  obtain ⟨x, hx⟩ : ∃ x : ByteArray, x.data.toList = jn (vals l0 (⟨#[67, 97, 99, 104, 101, 45, 67, 111, 110, 116, 114, 111, 108]⟩ : ByteArray).data.toList) := ⟨⟨(jn (vals l0 nCC)).toArray⟩, rfl⟩
  have HX : Hid (x.data.toList = jn (vals l0 (⟨#[67, 97, 99, 104, 101, 45, 67, 111, 110, 116, 114, 111, 108]⟩ : ByteArray).data.toList)) := hx
  have hxs : x.size ≤ 140737488355328 := by
    have h := jn_bulk l0 (⟨#[67, 97, 99, 104, 101, 45, 67, 111, 110, 116, 114, 111, 108]⟩ : ByteArray).data.toList
    rw [← hx, size_list] at h
    omega
  have HC : Hid ((ctQ x.data.toList).1 = ctl l0) := by show _ = _; rw [hx]; rfl
  have HNC : Hid ((secK (ctl l0) (⟨#[110, 111, 45, 99, 97, 99, 104, 101]⟩ : ByteArray).data.toList).2 = nc) := enc
  obtain ⟨ad', cap', hv', hnc', hcm', hcx'⟩ := id za
  subst hv'
  unfold maxLen at hcm'
  have HZA : Hid (Fl w (.slice ad' ks.length cap') ks) := za
  obtain ⟨ad, cap, hv, hnc, hcm, hcx⟩ := id z0
  subst hv
  unfold maxLen at hcm
  clear hcx hcx' za z0 ba b0 hb0 ht elf eag enc hus eU hM hbM hcM hx
  go_enter Tryz.func7, Tryz.ntmps7
  go_wp2_with fail
  refine (anch_any D hD _ (HALL.out _ (Below.refl _ _)).2.2.2).mono ?_
  rintro e w1 ⟨rfl, hb1⟩
  have HX1 : Hid (Below (w.alloc (.cells #[v0, v1, v2, v3, .int .i64 c, v5, .slice ad l0.length cap, v7, .int .i64 o, .int .i64 m, v10] 28)).heap.size (w.alloc (.cells #[v0, v1, v2, v3, .int .i64 c, v5, .slice ad l0.length cap, v7, .int .i64 o, .int .i64 m, v10] 28)) w1) := hb1
  clear hb1
  go_wp2_with fail
  refine (drop_any _ ks ⟨#[67, 97, 99, 104, 101, 45, 67, 111, 110, 116, 114, 111, 108]⟩ _ (HZA.out.below (HALL.out _ HX1.out).2.1) HWK.out (by decide)).mono ?_
  rintro e w2 ⟨v2', rfl, hown2, hb2⟩
  rw [HM.out] at hown2
  have HF2 : Hid (Fl w2 v2' M) := Fl.own hown2
  have HX2 : Hid (Below (w.alloc (.cells #[v0, v1, v2, v3, .int .i64 c, v5, .slice ad l0.length cap, v7, .int .i64 o, .int .i64 m, v10] 28)).heap.size (w.alloc (.cells #[v0, v1, v2, v3, .int .i64 c, v5, .slice ad l0.length cap, v7, .int .i64 o, .int .i64 m, v10] 28)) w2) := HX1.out.trans (hb2.mono HX1.out.size)
  obtain ⟨ad2, cap2, hv2, hcm2, hnc2, _⟩ := own_form2 hown2
  subst hv2
  clear hown2 hb2
  obtain ⟨⟨c0, c1, c2, c3, c4, c5, c6, c7, c8, c9, c10⟩, _, _, _⟩ := HALL.out _ HX2.out
  go_wp2_with fail
  refine (HUS.out _ _ HF2.out (HALL.out _ HX2.out).2.2.1 (HALL.out _ HX2.out).2.2.2).mono ?_
  rintro e w3 ⟨rfl, hb3⟩
  have HX3 : Hid (Below (w.alloc (.cells #[v0, v1, v2, v3, .int .i64 c, v5, .slice ad l0.length cap, v7, .int .i64 o, .int .i64 m, v10] 28)).heap.size (w.alloc (.cells #[v0, v1, v2, v3, .int .i64 c, v5, .slice ad l0.length cap, v7, .int .i64 o, .int .i64 m, v10] 28)) w3) := HX2.out.trans (hb3.mono HX2.out.size)
  clear hb3 c0 c1 c2 c3 c4 c5 c6 c7 c8 c9 c10
  rcases h3 with ⟨rfl, hlt⟩ | h3
  · go_upto_region 6 with fail
    obtain ⟨T, G, x0, rfl, HG1, HG2, HG3⟩ := below_class w3
    haveI : Nonempty T := ⟨x0⟩
    have HBG : Hid (∀ x, Below (w.alloc (.cells #[v0, v1, v2, v3, .int .i64 c, v5, .slice ad l0.length cap, v7, .int .i64 o, .int .i64 m, v10] 28)).heap.size (w.alloc (.cells #[v0, v1, v2, v3, .int .i64 c, v5, .slice ad l0.length cap, v7, .int .i64 o, .int .i64 m, v10] 28)) (G x)) := fun x => HX3.out.trans ((HG1.out x).mono HX3.out.size)
    have hall := fun x => (HALL.out _ (HBG.out x)).1
    have hc0 : ∀ x, (G x).cell? ⟨w.heap.size, 0, none⟩ = some v0 := fun x => (hall x).1
    have hc1 : ∀ x, (G x).cell? ⟨w.heap.size, 1, none⟩ = some v1 := fun x => (hall x).2.1
    have hc2 : ∀ x, (G x).cell? ⟨w.heap.size, 2, none⟩ = some v2 := fun x => (hall x).2.2.1
    have hc3 : ∀ x, (G x).cell? ⟨w.heap.size, 3, none⟩ = some v3 := fun x => (hall x).2.2.2.1
    have hc4 : ∀ x, (G x).cell? ⟨w.heap.size, 4, none⟩ = some (.int .i64 c) := fun x => (hall x).2.2.2.2.1
    have hc5 : ∀ x, (G x).cell? ⟨w.heap.size, 5, none⟩ = some v5 := fun x => (hall x).2.2.2.2.2.1
    have hc6 : ∀ x, (G x).cell? ⟨w.heap.size, 6, none⟩ = some (.slice ad l0.length cap) := fun x => (hall x).2.2.2.2.2.2.1
    have hc7 : ∀ x, (G x).cell? ⟨w.heap.size, 7, none⟩ = some v7 := fun x => (hall x).2.2.2.2.2.2.2.1
    have hc8 : ∀ x, (G x).cell? ⟨w.heap.size, 8, none⟩ = some (.int .i64 o) := fun x => (hall x).2.2.2.2.2.2.2.2.1
    have hc9 : ∀ x, (G x).cell? ⟨w.heap.size, 9, none⟩ = some (.int .i64 m) := fun x => (hall x).2.2.2.2.2.2.2.2.2.1
    have hc10 : ∀ x, (G x).cell? ⟨w.heap.size, 10, none⟩ = some v10 := fun x => (hall x).2.2.2.2.2.2.2.2.2.2
    have HLX : Hid (∀ x, Calls Tryz.prog 9 #[.agg #[v0, v1, v2, v3, .int .i64 c, v5, .slice ad l0.length cap, v7, .int .i64 o, .int .i64 m, v10]] (G x) fun e w' => e = .returned (.int .i64 life) ∧ ∃ y, w' = G y) := fun x => (HLF.out _ (HALL.out _ (HBG.out x)).2.2.1 (HALL.out _ (HBG.out x)).2.2.2).mono fun e W h => ⟨h.1, HG2.out _ W h.2⟩
    have HAX : Hid (∀ x, Calls Tryz.prog 11 #[.agg #[v0, v1, v2, v3, .int .i64 c, v5, .slice ad l0.length cap, v7, .int .i64 o, .int .i64 m, v10], .int .i64 a2] (G x) fun e w' => e = .returned (.int .i64 age) ∧ ∃ y, w' = G y) := fun x => (HAG.out _ (HALL.out _ (HBG.out x)).2.2.1 (HALL.out _ (HBG.out x)).2.2.2).mono fun e W h => ⟨h.1, HG2.out _ W h.2⟩
    clear hall
    refine region_in G (by kernel_rfl) (by kernel_rfl) (HG3.out _) ?_
    repeat (go_big_quiet_step (first
      | (go_at_call 9; with_reducible exact HLX.out _)
      | (go_at_call 11; with_reducible exact HAX.out _)))
    refine wpQuiet_nil ?_
    rintro _ ⟨x1, rfl⟩
    go_wp2_with fail
    go_ret
    exact ⟨by first | rfl | simp, (HALL.out _ (HBG.out x1)).2.1⟩
  · have h2 : U = 2 ∧ (life ≤ age ∨ (¬ life ≤ age ∧ nc = true)) := by
      rcases h3 with ⟨rfl, h⟩ | ⟨rfl, h, h4⟩
      · exact ⟨rfl, .inl (by omega)⟩
      · exact ⟨rfl, .inr ⟨by omega, h4⟩⟩
    clear h3
    obtain ⟨rfl, h3⟩ := h2
    obtain ⟨⟨c0, c1, c2, c3, c4, c5, c6, c7, c8, c9, c10⟩, _, _, _⟩ := HALL.out _ HX3.out
    go_wp2_with fail
    refine (get_at _ l0 _ x _ HX.out rfl _ (HALL.out _ HX3.out).2.2.1 HWL.out (by decide) hxs).mono ?_
    rintro e w4 ⟨rfl, hb4⟩
    have HX4 : Hid (Below (w.alloc (.cells #[v0, v1, v2, v3, .int .i64 c, v5, .slice ad l0.length cap, v7, .int .i64 o, .int .i64 m, v10] 28)).heap.size (w.alloc (.cells #[v0, v1, v2, v3, .int .i64 c, v5, .slice ad l0.length cap, v7, .int .i64 o, .int .i64 m, v10] 28)) w4) := HX3.out.trans (hb4.mono HX3.out.size)
    clear hb4 c0 c1 c2 c3 c4 c5 c6 c7 c8 c9 c10 HX3
    go_wp2_with fail
    refine (kparse_any x _).mono ?_
    rintro e w5 ⟨v5', rfl, hown5, hb5⟩
    rw [HC.out] at hown5
    have HX3 : Hid (Below (w.alloc (.cells #[v0, v1, v2, v3, .int .i64 c, v5, .slice ad l0.length cap, v7, .int .i64 o, .int .i64 m, v10] 28)).heap.size (w.alloc (.cells #[v0, v1, v2, v3, .int .i64 c, v5, .slice ad l0.length cap, v7, .int .i64 o, .int .i64 m, v10] 28)) w5) := HX4.out.trans (hb5.mono HX4.out.size)
    have HD5 : Hid (Dl w5 v5' (ctl l0)) := Dl.own hown5
    obtain ⟨ad5, cap5, hv5, hcm5, hnc5, _⟩ := own_form2 hown5
    subst hv5
    clear hb5 hown5
    go_upto_region 9 with fail
    obtain ⟨T, G, x0, rfl, HG1, HG2, HG3⟩ := below_class w5
    haveI : Nonempty T := ⟨x0⟩
    have HBG : Hid (∀ x, Below (w.alloc (.cells #[v0, v1, v2, v3, .int .i64 c, v5, .slice ad l0.length cap, v7, .int .i64 o, .int .i64 m, v10] 28)).heap.size (w.alloc (.cells #[v0, v1, v2, v3, .int .i64 c, v5, .slice ad l0.length cap, v7, .int .i64 o, .int .i64 m, v10] 28)) (G x)) := fun x => HX3.out.trans ((HG1.out x).mono HX3.out.size)
    have hall := fun x => (HALL.out _ (HBG.out x)).1
    have hc0 : ∀ x, (G x).cell? ⟨w.heap.size, 0, none⟩ = some v0 := fun x => (hall x).1
    have hc1 : ∀ x, (G x).cell? ⟨w.heap.size, 1, none⟩ = some v1 := fun x => (hall x).2.1
    have hc2 : ∀ x, (G x).cell? ⟨w.heap.size, 2, none⟩ = some v2 := fun x => (hall x).2.2.1
    have hc3 : ∀ x, (G x).cell? ⟨w.heap.size, 3, none⟩ = some v3 := fun x => (hall x).2.2.2.1
    have hc4 : ∀ x, (G x).cell? ⟨w.heap.size, 4, none⟩ = some (.int .i64 c) := fun x => (hall x).2.2.2.2.1
    have hc5 : ∀ x, (G x).cell? ⟨w.heap.size, 5, none⟩ = some v5 := fun x => (hall x).2.2.2.2.2.1
    have hc6 : ∀ x, (G x).cell? ⟨w.heap.size, 6, none⟩ = some (.slice ad l0.length cap) := fun x => (hall x).2.2.2.2.2.2.1
    have hc7 : ∀ x, (G x).cell? ⟨w.heap.size, 7, none⟩ = some v7 := fun x => (hall x).2.2.2.2.2.2.2.1
    have hc8 : ∀ x, (G x).cell? ⟨w.heap.size, 8, none⟩ = some (.int .i64 o) := fun x => (hall x).2.2.2.2.2.2.2.2.1
    have hc9 : ∀ x, (G x).cell? ⟨w.heap.size, 9, none⟩ = some (.int .i64 m) := fun x => (hall x).2.2.2.2.2.2.2.2.2.1
    have hc10 : ∀ x, (G x).cell? ⟨w.heap.size, 10, none⟩ = some v10 := fun x => (hall x).2.2.2.2.2.2.2.2.2.2
    have HLX : Hid (∀ x, Calls Tryz.prog 9 #[.agg #[v0, v1, v2, v3, .int .i64 c, v5, .slice ad l0.length cap, v7, .int .i64 o, .int .i64 m, v10]] (G x) fun e w' => e = .returned (.int .i64 life) ∧ ∃ y, w' = G y) := fun x => (HLF.out _ (HALL.out _ (HBG.out x)).2.2.1 (HALL.out _ (HBG.out x)).2.2.2).mono fun e W h => ⟨h.1, HG2.out _ W h.2⟩
    have HAX : Hid (∀ x, Calls Tryz.prog 11 #[.agg #[v0, v1, v2, v3, .int .i64 c, v5, .slice ad l0.length cap, v7, .int .i64 o, .int .i64 m, v10], .int .i64 a2] (G x) fun e w' => e = .returned (.int .i64 age) ∧ ∃ y, w' = G y) := fun x => (HAG.out _ (HALL.out _ (HBG.out x)).2.2.1 (HALL.out _ (HBG.out x)).2.2.2).mono fun e W h => ⟨h.1, HG2.out _ W h.2⟩
    have HHX : Hid (∀ x, Calls Tryz.prog 20 #[.slice ad5 (ctl l0).length cap5, .string ⟨#[110, 111, 45, 99, 97, 99, 104, 101]⟩] (G x) fun e w' => e = .returned (.bool nc) ∧ ∃ y, w' = G y) := fun x => (khas_at _ _ (ctl l0) nc HNC.out _ (HD5.out.below (HG1.out x))).mono fun e W h => ⟨h.1, HG2.out _ W h.2⟩
    clear hall
    have h3' : decide (life ≤ age) = true ∨ (decide (life ≤ age) = false ∧ nc = true) := by
      rcases h3 with h | ⟨h, h4⟩
      · exact .inl (decide_eq_true (by omega))
      · exact .inr ⟨decide_eq_false (by omega), h4⟩
    clear h3
    rcases h3' with hle | ⟨hlt, rfl⟩
    all_goals
      refine region_in G (by kernel_rfl) (by kernel_rfl) (HG3.out _) ?_
      repeat (go_big_quiet_step (first
        | (go_at_call 9; with_reducible exact HLX.out _)
        | (go_at_call 11; with_reducible exact HAX.out _)
        | (go_at_call 20; with_reducible exact HHX.out _)))
      refine wpQuiet_nil ?_
      rintro _ ⟨x1, rfl⟩
      go_wp2_with fail
      go_ret
      exact ⟨by first | rfl | simp, (HALL.out _ (HBG.out x1)).2.1⟩
end Go.Proofs.YtigbjhkkbgdkcabGreatDoor
