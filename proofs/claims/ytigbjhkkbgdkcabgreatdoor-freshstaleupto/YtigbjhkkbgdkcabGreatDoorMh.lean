/-
  What Use of package fresh says of lists of fields that hold at most 2^22 letters and values.
-/
import Derived.Test.YtigbjhkkbgdkcabGreatDoorMg
import Derived.Deep.RegionHeld3
import Derived.Deep.Cut
import Derived.Deep.DeepCutAuto
import Derived.Lib.AtoiTie
import Derived.Lib.ItoaNum
import Derived.Test.YtigbjhkkbgdkcabGreatDoorRows
namespace Go.Proofs.YtigbjhkkbgdkcabGreatDoor
open Go.RowKit

set_option maxHeartbeats 8000000 in
set_option maxRecDepth 100000 in
theorem fuse_at (D : DFn) (hD : DOk D) (av : Value) (ks : List Fld) (v0 v1 v2 v3 v5 v7 v10 fv : Value) (ls : List Fld) (code asked came now : Int) (w : World) (ha : Fl w av ks) (hak : bulkF ks ≤ 4194304) (hf : Fl w fv ls) (hbk : bulkF ls ≤ 4194304) (hT : DTabs w) :
    Calls Tryz.prog 13 #[av, .agg #[v0, v1, v2, v3, .int .i64 code, v5, fv, v7, .int .i64 asked, .int .i64 came, v10], .int .i64 now] w fun e w' => e = .returned (.int .i64 (useP (ctl ks) (ctl ls) (lifeP D ls code came) (ageP D ls asked came now))) ∧ Below w.heap.size w w' := by
  have hb0 : Below w.heap.size w (w.alloc (.cells #[v0, v1, v2, v3, .int .i64 code, v5, fv, v7, .int .i64 asked, .int .i64 came, v10] 28)) := (Below.refl _ w).alloc (Nat.le_refl _) _
  have HALL : Hid (∀ W : World, Below (w.alloc (.cells #[v0, v1, v2, v3, .int .i64 code, v5, fv, v7, .int .i64 asked, .int .i64 came, v10] 28)).heap.size (w.alloc (.cells #[v0, v1, v2, v3, .int .i64 code, v5, fv, v7, .int .i64 asked, .int .i64 came, v10] 28)) W →
      Cells11 W w.heap.size v0 v1 v2 v3 (.int .i64 code) v5 fv v7 (.int .i64 asked) (.int .i64 came) v10 ∧ Below w.heap.size w W ∧ Fl W fv ls ∧ Fl W av ks ∧ DTabs W) := fun W h => by
    have hB := hb0.trans (h.mono hb0.size)
    exact ⟨eleven h, hB, hf.below hB, ha.below hB, hT.below hB⟩
  have HAK : Hid (bulkF ks ≤ 4194304) := hak
  have HBK : Hid (bulkF ls ≤ 4194304) := hbk
  have HMA : Hid (MostD maxLen (ctl ks)) := fctl_most ks
  have HMS : Hid (MostD maxLen (ctl ls)) := fctl_most ls
  obtain ⟨life, elf⟩ : ∃ n, lifeP D ls code came = n := ⟨_, rfl⟩
  obtain ⟨age, eag⟩ : ∃ n, ageP D ls asked came now = n := ⟨_, rfl⟩
  have hli := life_in D ls code came
  have hai := age_in D ls asked came now
  rw [elf] at hli
  rw [eag] at hai
  obtain ⟨hl0, hl1⟩ := hli
  obtain ⟨ha0, ha1⟩ := hai
  have HLF : Hid (∀ W : World, Fl W fv ls → DTabs W → Calls Tryz.prog 9 #[.agg #[v0, v1, v2, v3, .int .i64 code, v5, fv, v7, .int .i64 asked, .int .i64 came, v10]] W fun e w' => e = .returned (.int .i64 life) ∧ Below W.heap.size W w') := fun W hW hM => by
    rw [← elf]
    exact flife_at D hD v0 v1 v2 v3 v5 v7 _ v10 fv ls code came W hW hbk hM
  have HAG : Hid (∀ W : World, Fl W fv ls → DTabs W → Calls Tryz.prog 11 #[.agg #[v0, v1, v2, v3, .int .i64 code, v5, fv, v7, .int .i64 asked, .int .i64 came, v10], .int .i64 now] W fun e w' => e = .returned (.int .i64 age) ∧ Below W.heap.size W w') := fun W hW hM => by
    rw [← eag]
    exact fage_at D hD v0 v1 v2 v3 _ v5 v7 v10 fv ls asked came now W hW hbk hM
  have HCA : Hid (∀ W : World, Below (w.alloc (.cells #[v0, v1, v2, v3, .int .i64 code, v5, fv, v7, .int .i64 asked, .int .i64 came, v10] 28)).heap.size (w.alloc (.cells #[v0, v1, v2, v3, .int .i64 code, v5, fv, v7, .int .i64 asked, .int .i64 came, v10] 28)) W → Calls Tryz.prog 21 #[av] W fun e w' => ∃ v', e = .returned v' ∧ Dl w' v' (ctl ks) ∧ Below (w.alloc (.cells #[v0, v1, v2, v3, .int .i64 code, v5, fv, v7, .int .i64 asked, .int .i64 came, v10] 28)).heap.size (w.alloc (.cells #[v0, v1, v2, v3, .int .i64 code, v5, fv, v7, .int .i64 asked, .int .i64 came, v10] 28)) w' ∧ w'.cell? ⟨w.heap.size, 6, none⟩ = some fv ∧ Below W.heap.size W w') := fun W h => (fdirs_at av ks W (HALL.out _ h).2.2.2.1 hak).mono fun e w' ⟨v', he, ho, hb⟩ => ⟨v', he, Dl.own ho, h.trans (hb.mono h.size), (eleven (h.trans (hb.mono h.size))).2.2.2.2.2.2.1, hb⟩
  have HCS : Hid (∀ W : World, Below (w.alloc (.cells #[v0, v1, v2, v3, .int .i64 code, v5, fv, v7, .int .i64 asked, .int .i64 came, v10] 28)).heap.size (w.alloc (.cells #[v0, v1, v2, v3, .int .i64 code, v5, fv, v7, .int .i64 asked, .int .i64 came, v10] 28)) W → Calls Tryz.prog 21 #[fv] W fun e w' => ∃ v', e = .returned v' ∧ Dl w' v' (ctl ls) ∧ Below (w.alloc (.cells #[v0, v1, v2, v3, .int .i64 code, v5, fv, v7, .int .i64 asked, .int .i64 came, v10] 28)).heap.size (w.alloc (.cells #[v0, v1, v2, v3, .int .i64 code, v5, fv, v7, .int .i64 asked, .int .i64 came, v10] 28)) w' ∧ w'.cell? ⟨w.heap.size, 6, none⟩ = some fv ∧ Below W.heap.size W w') := fun W h => (fdirs_at fv ls W (HALL.out _ h).2.2.1 hbk).mono fun e w' ⟨v', he, ho, hb⟩ => ⟨v', he, Dl.own ho, h.trans (hb.mono h.size), (eleven (h.trans (hb.mono h.size))).2.2.2.2.2.2.1, hb⟩
  have HX0 : Below (w.alloc (.cells #[v0, v1, v2, v3, .int .i64 code, v5, fv, v7, .int .i64 asked, .int .i64 came, v10] 28)).heap.size (w.alloc (.cells #[v0, v1, v2, v3, .int .i64 code, v5, fv, v7, .int .i64 asked, .int .i64 came, v10] 28)) (w.alloc (.cells #[v0, v1, v2, v3, .int .i64 code, v5, fv, v7, .int .i64 asked, .int .i64 came, v10] 28)).drew := (Below.refl _ _).drew
  obtain ⟨good, egd⟩ : ∃ b, goodP (ctl ks) (ctl ls) life age = b := ⟨_, rfl⟩
  obtain ⟨oic, eoi⟩ : ∃ b, hasK (ctl ks) dOIC = b := ⟨_, rfl⟩
  have HOI : Hid ((secK (ctl ks) (⟨#[111, 110, 108, 121, 45, 105, 102, 45, 99, 97, 99, 104, 101, 100]⟩ : ByteArray).data.toList).2 = oic) := eoi
  have HMY : Hid (∀ (av sv : Value) (W : World), Dl W av (ctl ks) → Dl W sv (ctl ls) → Calls Tryz.prog 39 #[av, sv, .int .i64 life, .int .i64 age] W fun e w' => e = .returned (.bool good) ∧ Below W.heap.size W w') := fun av sv W h1 h2 => by
    rw [← egd]
    exact fmay_at av sv _ _ life age W h1 h2 (fctl_most ks) hl0 hl1 ha0 ha1
  have HUS : Hid (useP (ctl ks) (ctl ls) life age = if good = true then 1 else if oic = true then 3 else 2) := by show _ = _; unfold useP; rw [egd, eoi]
  rw [elf, eag, HUS.out]
  obtain ⟨ad, cap, hv, hnc, hcm, hcx⟩ := id hf
  obtain ⟨ad', cap', hv', hnc', hcm', hcx'⟩ := id ha
  subst hv hv'
  unfold maxLen at hcm hcm'
  clear hcx hcx' ha hak hf hbk hb0 hT elf eag egd eoi HUS
  go_enter Tryz.func13, Tryz.ntmps13
  go_wp2_with fail
  go_region_held3 (fun w' => w'.cell? ⟨w.heap.size, 6, none⟩ = some (.slice ad ls.length cap)) (go_keep) (first
    | (go_at_call 21; first
      | (with_reducible refine (HCA.out _ (by first | exact hxs | exact HX0)).mono ?_; rintro e w3 ⟨va, rfl, hDa, hxa, hk6, hba⟩; try (have hDs2 := hDs.below hba))
      | (with_reducible refine (HCS.out _ (by first | exact hxa | exact HX0)).mono ?_; rintro e w3 ⟨vs, rfl, hDs, hxs, hk6, hbs⟩; try (have hDa2 := hDa.below hbs))))
  have HX3 : Hid (Below (w.alloc (.cells #[v0, v1, v2, v3, .int .i64 code, v5, .slice ad ls.length cap, v7, .int .i64 asked, .int .i64 came, v10] 28)).heap.size (w.alloc (.cells #[v0, v1, v2, v3, .int .i64 code, v5, .slice ad ls.length cap, v7, .int .i64 asked, .int .i64 came, v10] 28)) w3) := by first | exact hxs | exact hxa
  have HDA3 : Hid (Dl w3 va (ctl ks)) := by first | exact hDa2 | exact hDa
  have HDS3 : Hid (Dl w3 vs (ctl ls)) := by first | exact hDs2 | exact hDs
  clear hxa hxs hDa hDs hba hbs HX0 HCA HCS
  try clear hDa2
  try clear hDs2
  have hsz3 := HX3.out.size
  go_wp2_with fail
  obtain ⟨T, G, x0, rfl, HG1, HG2, HG3⟩ := below_class w3
  haveI : Nonempty T := ⟨x0⟩
  have HBG : Hid (∀ x, Below (w.alloc (.cells #[v0, v1, v2, v3, .int .i64 code, v5, .slice ad ls.length cap, v7, .int .i64 asked, .int .i64 came, v10] 28)).heap.size (w.alloc (.cells #[v0, v1, v2, v3, .int .i64 code, v5, .slice ad ls.length cap, v7, .int .i64 asked, .int .i64 came, v10] 28)) (G x)) := fun x => HX3.out.trans ((HG1.out x).mono hsz3)
  have hall := fun x => (HALL.out _ (HBG.out x)).1
  have hc0 : ∀ x, (G x).cell? ⟨w.heap.size, 0, none⟩ = some v0 := fun x => (hall x).1
  have hc1 : ∀ x, (G x).cell? ⟨w.heap.size, 1, none⟩ = some v1 := fun x => (hall x).2.1
  have hc2 : ∀ x, (G x).cell? ⟨w.heap.size, 2, none⟩ = some v2 := fun x => (hall x).2.2.1
  have hc3 : ∀ x, (G x).cell? ⟨w.heap.size, 3, none⟩ = some v3 := fun x => (hall x).2.2.2.1
  have hc4 : ∀ x, (G x).cell? ⟨w.heap.size, 4, none⟩ = some (.int .i64 code) := fun x => (hall x).2.2.2.2.1
  have hc5 : ∀ x, (G x).cell? ⟨w.heap.size, 5, none⟩ = some v5 := fun x => (hall x).2.2.2.2.2.1
  have hc6 : ∀ x, (G x).cell? ⟨w.heap.size, 6, none⟩ = some (.slice ad ls.length cap) := fun x => (hall x).2.2.2.2.2.2.1
  have hc7 : ∀ x, (G x).cell? ⟨w.heap.size, 7, none⟩ = some v7 := fun x => (hall x).2.2.2.2.2.2.2.1
  have hc8 : ∀ x, (G x).cell? ⟨w.heap.size, 8, none⟩ = some (.int .i64 asked) := fun x => (hall x).2.2.2.2.2.2.2.2.1
  have hc9 : ∀ x, (G x).cell? ⟨w.heap.size, 9, none⟩ = some (.int .i64 came) := fun x => (hall x).2.2.2.2.2.2.2.2.2.1
  have hc10 : ∀ x, (G x).cell? ⟨w.heap.size, 10, none⟩ = some v10 := fun x => (hall x).2.2.2.2.2.2.2.2.2.2
  have HLX : Hid (∀ x, Calls Tryz.prog 9 #[.agg #[v0, v1, v2, v3, .int .i64 code, v5, .slice ad ls.length cap, v7, .int .i64 asked, .int .i64 came, v10]] (G x) fun e w' => e = .returned (.int .i64 life) ∧ ∃ y, w' = G y) := fun x => (HLF.out _ (HALL.out _ (HBG.out x)).2.2.1 (HALL.out _ (HBG.out x)).2.2.2.2).mono fun e W h => ⟨h.1, HG2.out _ W h.2⟩
  have HAX : Hid (∀ x, Calls Tryz.prog 11 #[.agg #[v0, v1, v2, v3, .int .i64 code, v5, .slice ad ls.length cap, v7, .int .i64 asked, .int .i64 came, v10], .int .i64 now] (G x) fun e w' => e = .returned (.int .i64 age) ∧ ∃ y, w' = G y) := fun x => (HAG.out _ (HALL.out _ (HBG.out x)).2.2.1 (HALL.out _ (HBG.out x)).2.2.2.2).mono fun e W h => ⟨h.1, HG2.out _ W h.2⟩
  have HMX : Hid (∀ x, Calls Tryz.prog 39 #[va, vs, .int .i64 life, .int .i64 age] (G x) fun e w' => e = .returned (.bool good) ∧ ∃ y, w' = G y) := fun x => (HMY.out _ _ _ (HDA3.out.below (HG1.out x)) (HDS3.out.below (HG1.out x))).mono fun e W h => ⟨h.1, HG2.out _ W h.2⟩
  clear hall
  refine region_in G (by kernel_rfl) (by kernel_rfl) (HG3.out _) ?_
  repeat (go_big_quiet_step (first
    | (go_at_call 9; with_reducible exact HLX.out _)
    | (go_at_call 11; with_reducible exact HAX.out _)
    | (go_at_call 39; with_reducible exact HMX.out _)))
  refine wpQuiet_nil ?_
  rintro _ ⟨x1, rfl⟩
  have HX4 : Hid (Below (w.alloc (.cells #[v0, v1, v2, v3, .int .i64 code, v5, .slice ad ls.length cap, v7, .int .i64 asked, .int .i64 came, v10] 28)).heap.size (w.alloc (.cells #[v0, v1, v2, v3, .int .i64 code, v5, .slice ad ls.length cap, v7, .int .i64 asked, .int .i64 came, v10] 28)) (G x1)) := HBG.out x1
  have HB4 : Hid (Below w.heap.size w (G x1)) := (HALL.out _ HX4.out).2.1
  have HDA4 : Hid (Dl (G x1) va (ctl ks)) := HDA3.out.below (HG1.out x1)
  have HDS4 : Hid (Dl (G x1) vs (ctl ls)) := HDS3.out.below (HG1.out x1)
  obtain ⟨w4, hw4⟩ : ∃ w4, w4 = G x1 := ⟨_, rfl⟩
  rw [← hw4] at HX4 HB4 HDA4 HDS4 ⊢
  clear hc0 hc1 hc2 hc3 hc4 hc5 hc6 hc7 hc8 hc9 hc10 HLX HAX HMX HBG HG1 HG2 HG3 HX3 HDA3 HDS3 hsz3 hw4
  cases good
  · go_wp2_with fail
    refine (khas_at _ _ _ oic HOI.out _ HDA4.out).mono ?_
    rintro e w5 ⟨rfl, hb5⟩
    have HB5 : Hid (Below w.heap.size w w5) := HB4.out.trans (hb5.mono HB4.out.size)
    clear hb5
    cases oic
    · go_wp2_with fail
      go_ret
      exact ⟨rfl, HB5.out⟩
    · go_wp2_with fail
      go_ret
      exact ⟨rfl, HB5.out⟩
  · go_wp2_with fail
    go_ret
    exact ⟨rfl, HB4.out⟩
end Go.Proofs.YtigbjhkkbgdkcabGreatDoor

/-
  What Use of the document's answers says of lists of fields that hold at most 2^20 letters and values.
-/
namespace Go.Proofs.YtigbjhkkbgdkcabGreatDoor
open Go.RowKit

set_option maxHeartbeats 8000000 in
set_option maxRecDepth 100000 in
theorem ruse_at (D : DFn) (hD : DOk D) (av : Value) (ks : List Fld) (v0 v1 v2 v3 v5 v7 v10 fv : Value) (ls : List Fld) (code asked came now : Int) (w : World) (ha : Fl w av ks) (hak : bulkF ks ≤ 1048576) (hf : Fl w fv ls) (hbk : bulkF ls ≤ 1048576) (hm : ∃ m, w.cell? ⟨2, 0, none⟩ = some (.int .i64 m)) :
    Calls Tryz.prog 14 #[av, .agg #[v0, v1, v2, v3, .int .i64 code, v5, fv, v7, .int .i64 asked, .int .i64 came, v10], .int .i64 now] w fun e w' => e = .returned (.int .i64 (useP (ctl ks) (ctl ls) (lifeP D ls code came) (ageP D ls asked came now))) ∧ Below w.heap.size w w' := by
  obtain ⟨m, hm⟩ := hm
  have hb0 : Below w.heap.size w (w.alloc (.cells #[v0, v1, v2, v3, .int .i64 code, v5, fv, v7, .int .i64 asked, .int .i64 came, v10] 28)) := (Below.refl _ w).alloc (Nat.le_refl _) _
  have HALL : Hid (∀ W : World, Below (w.alloc (.cells #[v0, v1, v2, v3, .int .i64 code, v5, fv, v7, .int .i64 asked, .int .i64 came, v10] 28)).heap.size (w.alloc (.cells #[v0, v1, v2, v3, .int .i64 code, v5, fv, v7, .int .i64 asked, .int .i64 came, v10] 28)) W →
      Cells11 W w.heap.size v0 v1 v2 v3 (.int .i64 code) v5 fv v7 (.int .i64 asked) (.int .i64 came) v10 ∧ Below w.heap.size w W ∧ Fl W fv ls ∧ Fl W av ks ∧ (∃ m, W.cell? ⟨2, 0, none⟩ = some (.int .i64 m))) := fun W h => by
    have hB := hb0.trans (h.mono hb0.size)
    exact ⟨eleven h, hB, hf.below hB, ha.below hB, m, cell_keep hB hm⟩
  have HAK : Hid (bulkF ks ≤ 1048576) := hak
  have HBK : Hid (bulkF ls ≤ 1048576) := hbk
  have HMA : Hid (MostD maxLen (ctl ks)) := ctl_most ks
  have HMS : Hid (MostD maxLen (ctl ls)) := ctl_most ls
  obtain ⟨life, elf⟩ : ∃ n, lifeP D ls code came = n := ⟨_, rfl⟩
  obtain ⟨age, eag⟩ : ∃ n, ageP D ls asked came now = n := ⟨_, rfl⟩
  have hli := life_in D ls code came
  have hai := age_in D ls asked came now
  rw [elf] at hli
  rw [eag] at hai
  obtain ⟨hl0, hl1⟩ := hli
  obtain ⟨ha0, ha1⟩ := hai
  have HLF : Hid (∀ W : World, Fl W fv ls → (∃ m, W.cell? ⟨2, 0, none⟩ = some (.int .i64 m)) → Calls Tryz.prog 10 #[.agg #[v0, v1, v2, v3, .int .i64 code, v5, fv, v7, .int .i64 asked, .int .i64 came, v10]] W fun e w' => e = .returned (.int .i64 life) ∧ Below W.heap.size W w') := fun W hW hM => by
    rw [← elf]
    exact rlife_at D hD v0 v1 v2 v3 v5 v7 _ v10 fv ls code came W hW hbk hM
  have HAG : Hid (∀ W : World, Fl W fv ls → (∃ m, W.cell? ⟨2, 0, none⟩ = some (.int .i64 m)) → Calls Tryz.prog 12 #[.agg #[v0, v1, v2, v3, .int .i64 code, v5, fv, v7, .int .i64 asked, .int .i64 came, v10], .int .i64 now] W fun e w' => e = .returned (.int .i64 age) ∧ Below W.heap.size W w') := fun W hW hM => by
    rw [← eag]
    exact rage_at D hD v0 v1 v2 v3 _ v5 v7 v10 fv ls asked came now W hW hbk hM
  have HCA : Hid (∀ W : World, Below (w.alloc (.cells #[v0, v1, v2, v3, .int .i64 code, v5, fv, v7, .int .i64 asked, .int .i64 came, v10] 28)).heap.size (w.alloc (.cells #[v0, v1, v2, v3, .int .i64 code, v5, fv, v7, .int .i64 asked, .int .i64 came, v10] 28)) W → Calls Tryz.prog 29 #[av] W fun e w' => ∃ v', e = .returned v' ∧ Dl w' v' (ctl ks) ∧ Below (w.alloc (.cells #[v0, v1, v2, v3, .int .i64 code, v5, fv, v7, .int .i64 asked, .int .i64 came, v10] 28)).heap.size (w.alloc (.cells #[v0, v1, v2, v3, .int .i64 code, v5, fv, v7, .int .i64 asked, .int .i64 came, v10] 28)) w' ∧ w'.cell? ⟨w.heap.size, 6, none⟩ = some fv ∧ Below W.heap.size W w') := fun W h => (rctl_at av ks W (HALL.out _ h).2.2.2.1 hak).mono fun e w' ⟨v', he, ho, hb⟩ => ⟨v', he, Dl.own ho, h.trans (hb.mono h.size), (eleven (h.trans (hb.mono h.size))).2.2.2.2.2.2.1, hb⟩
  have HCS : Hid (∀ W : World, Below (w.alloc (.cells #[v0, v1, v2, v3, .int .i64 code, v5, fv, v7, .int .i64 asked, .int .i64 came, v10] 28)).heap.size (w.alloc (.cells #[v0, v1, v2, v3, .int .i64 code, v5, fv, v7, .int .i64 asked, .int .i64 came, v10] 28)) W → Calls Tryz.prog 29 #[fv] W fun e w' => ∃ v', e = .returned v' ∧ Dl w' v' (ctl ls) ∧ Below (w.alloc (.cells #[v0, v1, v2, v3, .int .i64 code, v5, fv, v7, .int .i64 asked, .int .i64 came, v10] 28)).heap.size (w.alloc (.cells #[v0, v1, v2, v3, .int .i64 code, v5, fv, v7, .int .i64 asked, .int .i64 came, v10] 28)) w' ∧ w'.cell? ⟨w.heap.size, 6, none⟩ = some fv ∧ Below W.heap.size W w') := fun W h => (rctl_at fv ls W (HALL.out _ h).2.2.1 hbk).mono fun e w' ⟨v', he, ho, hb⟩ => ⟨v', he, Dl.own ho, h.trans (hb.mono h.size), (eleven (h.trans (hb.mono h.size))).2.2.2.2.2.2.1, hb⟩
  have HX0 : Below (w.alloc (.cells #[v0, v1, v2, v3, .int .i64 code, v5, fv, v7, .int .i64 asked, .int .i64 came, v10] 28)).heap.size (w.alloc (.cells #[v0, v1, v2, v3, .int .i64 code, v5, fv, v7, .int .i64 asked, .int .i64 came, v10] 28)) (w.alloc (.cells #[v0, v1, v2, v3, .int .i64 code, v5, fv, v7, .int .i64 asked, .int .i64 came, v10] 28)).drew := (Below.refl _ _).drew
  rw [elf, eag]
  obtain ⟨g3, hg3⟩ : ∃ b, decide (age < life) = b := ⟨_, rfl⟩
  obtain ⟨bo, hbo⟩ : ∃ b, boundP (ctl ls) = b := ⟨_, rfl⟩
  obtain ⟨b1, hb1⟩ : ∃ b, hasK (ctl ks) dNC = b := ⟨_, rfl⟩
  obtain ⟨b2, hb2⟩ : ∃ b, hasK (ctl ls) dNC = b := ⟨_, rfl⟩
  obtain ⟨n3, b3, hb3⟩ : ∃ n b, secK (ctl ks) dMA = (n, b) := ⟨_, _, rfl⟩
  obtain ⟨n4, b4, hb4⟩ : ∃ n b, secK (ctl ks) dMF = (n, b) := ⟨_, _, rfl⟩
  obtain ⟨oic, hoi⟩ : ∃ b, hasK (ctl ks) dOIC = b := ⟨_, rfl⟩
  obtain ⟨c10, hc10⟩ : ∃ b, (b3 && decide (n3 < age)) = b := ⟨_, rfl⟩
  obtain ⟨c13, hc13⟩ : ∃ b, (b4 && decide (life - age < n4)) = b := ⟨_, rfl⟩
  have h10 : (c10 = false ∧ b3 = false) ∨ (c10 = false ∧ b3 = true ∧ ¬ n3 < age) ∨ (c10 = true ∧ b3 = true ∧ n3 < age) := by
    rw [← hc10]
    cases b3
    · exact .inl ⟨rfl, rfl⟩
    · by_cases h : n3 < age <;> simp [h]
  have h13 : (c13 = false ∧ b4 = false) ∨ (c13 = false ∧ b4 = true ∧ ¬ life - age < n4) ∨ (c13 = true ∧ b4 = true ∧ life - age < n4) := by
    rw [← hc13]
    cases b4
    · exact .inl ⟨rfl, rfl⟩
    · by_cases h : life - age < n4 <;> simp [h]
  have h3i := secK_in (ctl ks) dMA
  have h4i := secK_in (ctl ks) dMF
  rw [hb3] at h3i
  rw [hb4] at h4i
  obtain ⟨h3l, h3h⟩ := h3i
  obtain ⟨h4l, h4h⟩ := h4i
  have hgl : (g3 = true ∧ age < life) ∨ (g3 = false ∧ ¬ age < life) := by
    rw [← hg3]
    by_cases h : age < life <;> simp [h]
  have HGOOD : Hid (useP (ctl ks) (ctl ls) life age = if ((g3 || (!bo && leave (ctl ks) (age - life))) && !b1 && !b2 && !c10 && !c13) = true then 1 else if oic = true then 3 else 2) := by
    have e3 : hasK (ctl ks) dMA = b3 := by unfold hasK; rw [hb3]
    have e4 : hasK (ctl ks) dMF = b4 := by unfold hasK; rw [hb4]
    show _ = _
    unfold useP goodP
    rw [hg3, hbo, hb1, hb2, e3, e4, hb3, hb4, hoi]
    simp only [hc10, hc13]
  have HSB : Hid ([(⟨#[109, 117, 115, 116, 45, 114, 101, 118, 97, 108, 105, 100, 97, 116, 101]⟩ : ByteArray).data.toList, (⟨#[112, 114, 111, 120, 121, 45, 114, 101, 118, 97, 108, 105, 100, 97, 116, 101]⟩ : ByteArray).data.toList, (⟨#[115, 45, 109, 97, 120, 97, 103, 101]⟩ : ByteArray).data.toList, (⟨#[110, 111, 45, 99, 97, 99, 104, 101]⟩ : ByteArray).data.toList].any (hasK (ctl ls)) = bo) := by
    show _ = _
    rw [← hbo]
    unfold boundP
    rw [List.any_cons, List.any_cons, List.any_cons, List.any_cons, List.any_nil, Bool.or_false]
    show (hasK (ctl ls) dMust || (hasK (ctl ls) dProxy || (hasK (ctl ls) dSM || hasK (ctl ls) dNC))) = _
    cases hasK (ctl ls) dMust <;> cases hasK (ctl ls) dProxy <;> cases hasK (ctl ls) dSM <;> rfl
  have HN1 : Hid ([(⟨#[110, 111, 45, 99, 97, 99, 104, 101]⟩ : ByteArray).data.toList].any (hasK (ctl ks)) = b1) := by
    show _ = _
    rw [← hb1, List.any_cons, List.any_nil, Bool.or_false]; rfl
  have HN2 : Hid ([(⟨#[110, 111, 45, 99, 97, 99, 104, 101]⟩ : ByteArray).data.toList].any (hasK (ctl ls)) = b2) := by
    show _ = _
    rw [← hb2, List.any_cons, List.any_nil, Bool.or_false]; rfl
  have HOI : Hid ([(⟨#[111, 110, 108, 121, 45, 105, 102, 45, 99, 97, 99, 104, 101, 100]⟩ : ByteArray).data.toList].any (hasK (ctl ks)) = oic) := by
    show _ = _
    rw [← hoi, List.any_cons, List.any_nil, Bool.or_false]; rfl
  have H3 : Hid (secK (ctl ks) (⟨#[109, 97, 120, 45, 97, 103, 101]⟩ : ByteArray).data.toList = (n3, b3)) := hb3
  have H4 : Hid (secK (ctl ks) (⟨#[109, 105, 110, 45, 102, 114, 101, 115, 104]⟩ : ByteArray).data.toList = (n4, b4)) := hb4
  obtain ⟨ad, cap, hv, hnc, hcm, hcx⟩ := id hf
  obtain ⟨ad', cap', hv', hnc', hcm', hcx'⟩ := id ha
  subst hv hv'
  unfold maxLen at hcm hcm'
  clear hcx hcx' ha hak hf hbk hb0 hm elf eag hbo hb1 hb2 hb3 hb4 hoi hc10 hc13
  go_enter Tryz.func14, Tryz.ntmps14
  go_wp2_with fail
  go_region_held3 (fun w' => w'.cell? ⟨w.heap.size, 6, none⟩ = some (.slice ad ls.length cap)) (go_keep) (first
    | (go_at_call 29; first
      | (with_reducible refine (HCA.out _ (by first | exact hxs | exact HX0)).mono ?_; rintro e w3 ⟨va, rfl, hDa, hxa, hk6, hba⟩; try (have hDs2 := hDs.below hba))
      | (with_reducible refine (HCS.out _ (by first | exact hxa | exact HX0)).mono ?_; rintro e w3 ⟨vs, rfl, hDs, hxs, hk6, hbs⟩; try (have hDa2 := hDa.below hbs))))
  have HX3 : Hid (Below (w.alloc (.cells #[v0, v1, v2, v3, .int .i64 code, v5, .slice ad ls.length cap, v7, .int .i64 asked, .int .i64 came, v10] 28)).heap.size (w.alloc (.cells #[v0, v1, v2, v3, .int .i64 code, v5, .slice ad ls.length cap, v7, .int .i64 asked, .int .i64 came, v10] 28)) w3) := by first | exact hxs | exact hxa
  have HDA3 : Hid (Dl w3 va (ctl ks)) := by first | exact hDa2 | exact hDa
  have HDS3 : Hid (Dl w3 vs (ctl ls)) := by first | exact hDs2 | exact hDs
  clear hxa hxs hDa hDs hba hbs HX0 HCA HCS
  try clear hDa2
  try clear hDs2
  have hsz3 := HX3.out.size
  go_wp2_with fail
  obtain ⟨T, G, x0, rfl, HG1, HG2, HG3⟩ := below_class w3
  haveI : Nonempty T := ⟨x0⟩
  have HBG : Hid (∀ x, Below (w.alloc (.cells #[v0, v1, v2, v3, .int .i64 code, v5, .slice ad ls.length cap, v7, .int .i64 asked, .int .i64 came, v10] 28)).heap.size (w.alloc (.cells #[v0, v1, v2, v3, .int .i64 code, v5, .slice ad ls.length cap, v7, .int .i64 asked, .int .i64 came, v10] 28)) (G x)) := fun x => HX3.out.trans ((HG1.out x).mono hsz3)
  have hall := fun x => (HALL.out _ (HBG.out x)).1
  have hc0 : ∀ x, (G x).cell? ⟨w.heap.size, 0, none⟩ = some v0 := fun x => (hall x).1
  have hc1 : ∀ x, (G x).cell? ⟨w.heap.size, 1, none⟩ = some v1 := fun x => (hall x).2.1
  have hc2 : ∀ x, (G x).cell? ⟨w.heap.size, 2, none⟩ = some v2 := fun x => (hall x).2.2.1
  have hc3 : ∀ x, (G x).cell? ⟨w.heap.size, 3, none⟩ = some v3 := fun x => (hall x).2.2.2.1
  have hc4 : ∀ x, (G x).cell? ⟨w.heap.size, 4, none⟩ = some (.int .i64 code) := fun x => (hall x).2.2.2.2.1
  have hc5 : ∀ x, (G x).cell? ⟨w.heap.size, 5, none⟩ = some v5 := fun x => (hall x).2.2.2.2.2.1
  have hc6 : ∀ x, (G x).cell? ⟨w.heap.size, 6, none⟩ = some (.slice ad ls.length cap) := fun x => (hall x).2.2.2.2.2.2.1
  have hc7 : ∀ x, (G x).cell? ⟨w.heap.size, 7, none⟩ = some v7 := fun x => (hall x).2.2.2.2.2.2.2.1
  have hc8 : ∀ x, (G x).cell? ⟨w.heap.size, 8, none⟩ = some (.int .i64 asked) := fun x => (hall x).2.2.2.2.2.2.2.2.1
  have hc9 : ∀ x, (G x).cell? ⟨w.heap.size, 9, none⟩ = some (.int .i64 came) := fun x => (hall x).2.2.2.2.2.2.2.2.2.1
  have hc10 : ∀ x, (G x).cell? ⟨w.heap.size, 10, none⟩ = some v10 := fun x => (hall x).2.2.2.2.2.2.2.2.2.2
  have HLX : Hid (∀ x, Calls Tryz.prog 10 #[.agg #[v0, v1, v2, v3, .int .i64 code, v5, .slice ad ls.length cap, v7, .int .i64 asked, .int .i64 came, v10]] (G x) fun e w' => e = .returned (.int .i64 life) ∧ ∃ y, w' = G y) := fun x => (HLF.out _ (HALL.out _ (HBG.out x)).2.2.1 (HALL.out _ (HBG.out x)).2.2.2.2).mono fun e W h => ⟨h.1, HG2.out _ W h.2⟩
  have HAX : Hid (∀ x, Calls Tryz.prog 12 #[.agg #[v0, v1, v2, v3, .int .i64 code, v5, .slice ad ls.length cap, v7, .int .i64 asked, .int .i64 came, v10], .int .i64 now] (G x) fun e w' => e = .returned (.int .i64 age) ∧ ∃ y, w' = G y) := fun x => (HAG.out _ (HALL.out _ (HBG.out x)).2.2.1 (HALL.out _ (HBG.out x)).2.2.2.2).mono fun e W h => ⟨h.1, HG2.out _ W h.2⟩
  clear hall
  refine region_in G (by kernel_rfl) (by kernel_rfl) (HG3.out _) ?_
  repeat (go_big_quiet_step (first
    | (go_at_call 10; with_reducible exact HLX.out _)
    | (go_at_call 12; with_reducible exact HAX.out _)))
  refine wpQuiet_nil ?_
  rintro _ ⟨x1, rfl⟩
  have HX4 : Hid (Below (w.alloc (.cells #[v0, v1, v2, v3, .int .i64 code, v5, .slice ad ls.length cap, v7, .int .i64 asked, .int .i64 came, v10] 28)).heap.size (w.alloc (.cells #[v0, v1, v2, v3, .int .i64 code, v5, .slice ad ls.length cap, v7, .int .i64 asked, .int .i64 came, v10] 28)) (G x1)) := HBG.out x1
  have HB4 : Hid (Below w.heap.size w (G x1)) := (HALL.out _ HX4.out).2.1
  have HDA4 : Hid (Dl (G x1) va (ctl ks)) := HDA3.out.below (HG1.out x1)
  have HDS4 : Hid (Dl (G x1) vs (ctl ls)) := HDS3.out.below (HG1.out x1)
  obtain ⟨w4, hw4⟩ : ∃ w4, w4 = G x1 := ⟨_, rfl⟩
  rw [← hw4] at HX4 HB4 HDA4 HDS4 ⊢
  clear hc0 hc1 hc2 hc3 hc4 hc5 hc6 hc7 hc8 hc9 hc10 HLX HAX HBG HG1 HG2 HG3 HX3 HDA3 HDS3 hsz3 hw4
  clear HX4
  go_wp2_with fail
  refine (rdir_at va _ _ _ HDA4.out HMA.out).mono ?_
  rintro e w5 ⟨hx, hb5⟩
  obtain ⟨nm, am, f, r, rfl, hs, hasz, hfi⟩ := hx
  have HAM : Hid (am.size ≤ maxLen) := hasz
  obtain ⟨k6, hk6⟩ : ∃ k, numK am.data.toList = k := ⟨_, rfl⟩
  have HK6 : Hid (numK am.data.toList = k6) := hk6
  have hk6i := numK_in am.data.toList
  rw [hk6] at hk6i
  obtain ⟨hk6l, hk6h⟩ := hk6i
  have hlv : leave (ctl ks) (age - life) = (r && (!f || decide (age - life ≤ k6))) := by
    have hfi' : (ctl ks).find? (isNm dMS) = if r = true then some (nm.data.toList, f, am.data.toList) else none := hfi
    unfold leave
    rw [hfi']
    cases r
    · rfl
    · simp only [if_true, Bool.true_and]
      rw [hk6]
  obtain ⟨c5, hc5⟩ : ∃ b, (r && !bo) = b := ⟨_, rfl⟩
  have h5 : (r = false ∧ c5 = false) ∨ (r = true ∧ c5 = !bo) := by
    rw [← hc5]
    cases r <;> simp
  obtain ⟨g6, hg6⟩ : ∃ b, (g3 || (!bo && leave (ctl ks) (age - life))) = b := ⟨_, rfl⟩
  have HU6 : Hid (useP (ctl ks) (ctl ls) life age = if (g6 && !b1 && !b2 && !c10 && !c13) = true then 1 else if oic = true then 3 else 2) := by
    show _ = _
    rw [HGOOD.out, hg6]
  have h6 : (c5 = false ∧ g6 = g3) ∨ (c5 = true ∧ g3 = true ∧ g6 = true) ∨ (c5 = true ∧ g3 = false ∧ f = false ∧ g6 = true) ∨ (c5 = true ∧ g3 = false ∧ f = true ∧ age - life ≤ k6 ∧ g6 = true) ∨ (c5 = true ∧ g3 = false ∧ f = true ∧ ¬ age - life ≤ k6 ∧ g6 = false) := by
    rw [← hc5, ← hg6, hlv]
    by_cases hle : age - life ≤ k6
    · rw [decide_eq_true hle]
      cases r <;> cases bo <;> cases g3 <;> cases f <;> simp [hle]
    · rw [decide_eq_false hle]
      cases r <;> cases bo <;> cases g3 <;> cases f <;> simp [hle]
  clear hs hasz hfi hk6 hlv hc5 hg6 HGOOD
  obtain ⟨w6, hw6⟩ : ∃ w6, w6 = w5.alloc (.cells #[.string nm, .bool f, .string am] 59) := ⟨_, rfl⟩
  have hd1 : w6.cell? ⟨w5.heap.size, 1, none⟩ = some (.bool f) := by rw [hw6]; simp
  have hd2 : w6.cell? ⟨w5.heap.size, 2, none⟩ = some (.string am) := by rw [hw6]; simp
  have hs6 : w5.heap.size < w6.heap.size := by rw [hw6]; simp
  have hB5 : Below w4.heap.size w4 w6 := by rw [hw6]; exact hb5.alloc hb5.size _
  have HB6 : Hid (Below w.heap.size w w6) := HB4.out.trans (hB5.mono HB4.out.size)
  have HDA6 : Hid (Dl w6 va (ctl ks)) := HDA4.out.below hB5
  have HDS6 : Hid (Dl w6 vs (ctl ls)) := HDS4.out.below hB5
  have HD1 : Hid (w6.cell? ⟨w5.heap.size, 1, none⟩ = some (.bool f)) := hd1
  have HD2 : Hid (w6.cell? ⟨w5.heap.size, 2, none⟩ = some (.string am)) := hd2
  clear hb5 hB5 HB4 HDA4 HDS4 hd1 hd2
  go_upto_region 5 with fail
  try rw [← hw6]
  clear hw6
  go_cut [43] (fun x wx => x = .bool c5 ∧ Below w6.heap.size w6 wx)
  case first =>
    rcases h5 with ⟨rfl, rfl⟩ | ⟨rfl, hc5⟩
    · go_wp2_with fail
      go_meet
      exact ⟨rfl, Below.refl _ _⟩
    · go_wp2_with fail
      refine (rsome_at vs _ _ _ _ ((HDS6.out).below ((Below.refl _ _).alloc (Nat.le_refl _) _)) HMS.out (sl_four w6 _ _ _ _ _)).mono ?_
      rintro e w7 ⟨rfl, hb7⟩
      rw [HSB.out]
      have hB7 : Below w6.heap.size w6 w7 := ((Below.refl _ w6).alloc (Nat.le_refl _) _).trans (hb7.mono (by simp))
      clear hb7
      subst hc5
      go_wp2_with fail
      go_meet
      exact ⟨by cases bo <;> rfl, hB7⟩
  case rest =>
    obtain ⟨rfl, hwc⟩ := hcut
    have HB7 : Hid (Below w.heap.size w wc) := HB6.out.trans (hwc.mono HB6.out.size)
    have HDA7 : Hid (Dl wc va (ctl ks)) := HDA6.out.below hwc
    have HDS7 : Hid (Dl wc vs (ctl ls)) := HDS6.out.below hwc
    have d1 : wc.cell? ⟨w5.heap.size, 1, none⟩ = some (.bool f) := (hwc.cell (p := ⟨w5.heap.size, 1, none⟩) hs6).trans HD1.out
    have d2 : wc.cell? ⟨w5.heap.size, 2, none⟩ = some (.string am) := (hwc.cell (p := ⟨w5.heap.size, 2, none⟩) hs6).trans HD2.out
    have hs7 : w5.heap.size < wc.heap.size := Nat.lt_of_lt_of_le hs6 hwc.size
    obtain ⟨w7, hw7⟩ : ∃ w7, w7 = wc := ⟨_, rfl⟩
    rw [← hw7] at HB7 HDA7 HDS7 d1 d2 hs7 ⊢
    clear hwc hw7 HB6 HDA6 HDS6 HD1 HD2 h5 HSB
    go_upto_if 43 with fail
    go_cut [11] (fun x wx => x = .bool g6 ∧ wx = w7)
    case first =>
      rcases h6 with ⟨rfl, rfl⟩ | ⟨rfl, rfl, rfl⟩ | ⟨rfl, rfl, rfl, rfl⟩ | ⟨rfl, rfl, rfl, hle, rfl⟩ | ⟨rfl, rfl, rfl, hle, rfl⟩
      · go_wp2_with fail
        go_meet
        exact ⟨rfl, rfl⟩
      · go_wp2_with fail
        go_meet
        exact ⟨rfl, rfl⟩
      · go_wp2_with fail
        go_meet
        exact ⟨rfl, rfl⟩
      · go_wp2_with fail
        refine (rsecs_at am _ HAM.out).mono ?_
        rintro e w8 ⟨rfl, rfl⟩
        rw [HK6.out]
        go_wp2_with fail
        go_meet
        exact ⟨by first | rfl | simp [hle], rfl⟩
      · go_wp2_with fail
        refine (rsecs_at am _ HAM.out).mono ?_
        rintro e w8 ⟨rfl, rfl⟩
        rw [HK6.out]
        go_wp2_with fail
        go_meet
        exact ⟨by first | rfl | (simp; omega), rfl⟩
    case rest =>
      obtain ⟨rfl, hwc⟩ := hcut
      replace hwc := hwc.symm
      subst hwc
      obtain ⟨c7, hc7⟩ : ∃ b, (b1 || b2) = b := ⟨_, rfl⟩
      obtain ⟨g8, hg8⟩ : ∃ b, (g6 && !c7) = b := ⟨_, rfl⟩
      obtain ⟨g11, hg11⟩ : ∃ b, (g8 && !c10) = b := ⟨_, rfl⟩
      obtain ⟨g14, hg14⟩ : ∃ b, (g11 && !c13) = b := ⟨_, rfl⟩
      have HU14 : Hid (useP (ctl ks) (ctl ls) life age = if g14 = true then 1 else if oic = true then 3 else 2) := by
        show _ = _
        rw [HU6.out, ← hg14, ← hg11, ← hg8, ← hc7]
        cases g6 <;> cases b1 <;> cases b2 <;> rfl
      have h8 : (c7 = false ∧ g8 = g6) ∨ (c7 = true ∧ g8 = false) := by rw [← hg8]; cases c7 <;> simp
      have h11 : (c10 = false ∧ g11 = g8) ∨ (c10 = true ∧ g11 = false) := by rw [← hg11]; cases c10 <;> simp
      have h14 : (c13 = false ∧ g14 = g11) ∨ (c13 = true ∧ g14 = false) := by rw [← hg14]; cases c13 <;> simp
      clear HU6 hg8 hg11 hg14 h6 d1 d2 hs7 HAM HK6 hk6l hk6h
      go_upto_region 7 with fail
      go_cut [66] (fun x wx => x = .bool c7 ∧ Below w7.heap.size w7 wx)
      case first =>
        go_wp2_with fail
        refine (rsome_at va _ _ _ _ (HDA7.out.below ((Below.refl _ _).alloc (Nat.le_refl _) _)) HMA.out (sl_one w7 _ _)).mono ?_
        rintro e w8 ⟨rfl, hb8⟩
        rw [HN1.out]
        have HB8 : Hid (Below w7.heap.size w7 w8) := ((Below.refl _ w7).alloc (Nat.le_refl _) _).trans (hb8.mono (by simp))
        clear hb8
        cases b1
        · go_wp2_with fail
          refine (rsome_at vs _ _ _ _ ((HDS7.out.below HB8.out).below ((Below.refl _ _).alloc (Nat.le_refl _) _)) HMS.out (sl_one w8 _ _)).mono ?_
          rintro e w9 ⟨rfl, hb9⟩
          rw [HN2.out]
          have HB9 : Hid (Below w7.heap.size w7 w9) := (HB8.out.alloc HB8.out.size _).trans (hb9.mono (HB8.out.alloc HB8.out.size _).size)
          clear hb9
          go_wp2_with fail
          go_meet
          exact ⟨by rw [← hc7]; try (cases b2 <;> rfl), HB9.out⟩
        · go_wp2_with fail
          go_meet
          exact ⟨by rw [← hc7]; try rfl, HB8.out⟩
      case rest =>
        obtain ⟨rfl, hwc⟩ := hcut
        have HB8 : Hid (Below w.heap.size w wc) := HB7.out.trans (hwc.mono HB7.out.size)
        have HDA8 : Hid (Dl wc va (ctl ks)) := HDA7.out.below hwc
        obtain ⟨w8, hw8⟩ : ∃ w8, w8 = wc := ⟨_, rfl⟩
        rw [← hw8] at HB8 HDA8 ⊢
        clear hwc hw8 hc7 HB7 HDA7 HDS7 HN1 HN2
        go_upto_if 66 with fail
        go_cut [11] (fun x wx => x = .bool g8 ∧ wx = w8)
        case first =>
          rcases h8 with ⟨rfl, rfl⟩ | ⟨rfl, rfl⟩
          all_goals
            go_wp2_with fail
            go_meet
            exact ⟨rfl, rfl⟩
        case rest =>
          obtain ⟨rfl, hwc⟩ := hcut
          replace hwc := hwc.symm
          subst hwc
          clear h8
          go_wp2_with fail
          refine (rksec_at va _ (ctl ks) n3 b3 H3.out _ HDA8.out HMA.out).mono ?_
          rintro e w9 ⟨rfl, hb9⟩
          have HB9 : Hid (Below w.heap.size w w9) := HB8.out.trans (hb9.mono HB8.out.size)
          have HDA9 : Hid (Dl w9 va (ctl ks)) := HDA8.out.below hb9
          clear hb9 HB8 HDA8 H3
          go_upto_region 10 with fail
          go_cut [77] (fun x wx => x = .bool c10 ∧ wx = w9)
          case first =>
            rcases h10 with ⟨rfl, rfl⟩ | ⟨rfl, rfl, h⟩ | ⟨rfl, rfl, h⟩
            all_goals
              go_wp2_with fail
              go_meet
              exact ⟨by first | rfl | (simp; omega), rfl⟩
          case rest =>
            obtain ⟨rfl, hwc⟩ := hcut
            replace hwc := hwc.symm
            subst hwc
            clear h10
            go_upto_if 77 with fail
            go_cut [11] (fun x wx => x = .bool g11 ∧ wx = w9)
            case first =>
              rcases h11 with ⟨rfl, rfl⟩ | ⟨rfl, rfl⟩
              all_goals
                go_wp2_with fail
                go_meet
                exact ⟨rfl, rfl⟩
            case rest =>
              obtain ⟨rfl, hwc⟩ := hcut
              replace hwc := hwc.symm
              subst hwc
              clear h11
              go_wp2_with fail
              refine (rksec_at va _ (ctl ks) n4 b4 H4.out _ HDA9.out HMA.out).mono ?_
              rintro e w10 ⟨rfl, hb10⟩
              have HB10 : Hid (Below w.heap.size w w10) := HB9.out.trans (hb10.mono HB9.out.size)
              have HDA10 : Hid (Dl w10 va (ctl ks)) := HDA9.out.below hb10
              clear hb10 HB9 HDA9 H4
              go_upto_region 13 with fail
              go_cut [90] (fun x wx => x = .bool c13 ∧ wx = w10)
              case first =>
                rcases h13 with ⟨rfl, rfl⟩ | ⟨rfl, rfl, h⟩ | ⟨rfl, rfl, h⟩
                all_goals
                  go_wp2_with fail
                  go_meet
                  exact ⟨by first | rfl | (simp; omega), rfl⟩
              case rest =>
                obtain ⟨rfl, hwc⟩ := hcut
                replace hwc := hwc.symm
                subst hwc
                clear h13
                go_upto_if 90 with fail
                go_cut [11] (fun x wx => x = .bool g14 ∧ wx = w10)
                case first =>
                  rcases h14 with ⟨rfl, rfl⟩ | ⟨rfl, rfl⟩
                  all_goals
                    go_wp2_with fail
                    go_meet
                    exact ⟨rfl, rfl⟩
                case rest =>
                  obtain ⟨rfl, hwc⟩ := hcut
                  replace hwc := hwc.symm
                  subst hwc
                  clear h14
                  cases g14
                  · go_wp2_with fail
                    refine (rsome_at va _ _ _ _ (HDA10.out.below ((Below.refl _ _).alloc (Nat.le_refl _) _)) HMA.out (sl_one w10 _ _)).mono ?_
                    rintro e w11 ⟨rfl, hb11⟩
                    rw [HOI.out]
                    have HB11 : Hid (Below w.heap.size w w11) := (HB10.out.alloc HB10.out.size _).trans (hb11.mono (HB10.out.alloc HB10.out.size _).size)
                    clear hb11
                    cases oic
                    all_goals
                      go_wp2_with fail
                      go_ret
                      exact ⟨ret_int (by rw [HU14.out]; rfl), HB11.out⟩
                  · go_wp2_with fail
                    go_ret
                    exact ⟨ret_int (by rw [HU14.out]; rfl), HB10.out⟩
end Go.Proofs.YtigbjhkkbgdkcabGreatDoor

/-
  The walk through FreshUses: it answers true and turns nothing that was there. The lists hold at most 2^20 letters and values, and the listed variables hold what their text lays.
-/
namespace Go.Proofs.YtigbjhkkbgdkcabGreatDoor
open Go.RowKit

set_option maxHeartbeats 8000000 in
set_option maxRecDepth 100000 in
theorem walkFreshUses (av : Value) (ks : List Fld) (v0 v1 v2 v3 v5 v7 v10 fv : Value) (l0 : List Fld) (c o m : Int) (a2 : Int) (w : World) (za : Fl w av ks) (ba : bulkF ks ≤ 1048576) (z0 : Fl w fv l0) (b0 : bulkF l0 ≤ 1048576) (_z2 : (Lit.int .i64 a2).wf = true) (hm : ∃ m, w.cell? ⟨2, 0, none⟩ = some (.int .i64 m)) (ht : DTabs w) :
    Calls Tryz.prog 5 #[av, .agg #[v0, v1, v2, v3, .int .i64 c, v5, fv, v7, .int .i64 o, .int .i64 m, v10], .int .i64 a2] w fun e w' => e = .returned (.bool true) ∧ Below w.heap.size w w' := by
  obtain ⟨D, hD⟩ := dfn_ex
  obtain ⟨mm, hm⟩ := hm
  have hb0 : Below w.heap.size w (w.alloc (.cells #[v0, v1, v2, v3, .int .i64 c, v5, fv, v7, .int .i64 o, .int .i64 m, v10] 28)) := (Below.refl _ w).alloc (Nat.le_refl _) _
  have HALL : Hid (∀ W : World, Below (w.alloc (.cells #[v0, v1, v2, v3, .int .i64 c, v5, fv, v7, .int .i64 o, .int .i64 m, v10] 28)).heap.size (w.alloc (.cells #[v0, v1, v2, v3, .int .i64 c, v5, fv, v7, .int .i64 o, .int .i64 m, v10] 28)) W →
      Cells11 W w.heap.size v0 v1 v2 v3 (.int .i64 c) v5 fv v7 (.int .i64 o) (.int .i64 m) v10 ∧ Below w.heap.size w W ∧ Fl W fv l0 ∧ DTabs W ∧ (∃ m, W.cell? ⟨2, 0, none⟩ = some (.int .i64 m)) ∧ Fl W av ks) := fun W h => by
    have hB := hb0.trans (h.mono hb0.size)
    exact ⟨eleven h, hB, z0.below hB, ht.below hB, ⟨mm, cell_keep hB hm⟩, za.below hB⟩
  obtain ⟨use, eus⟩ : ∃ n, useP (ctl ks) (ctl l0) (lifeP D l0 c m) (ageP D l0 o m a2) = n := ⟨_, rfl⟩
  have HLF : Hid (∀ W : World, Fl W av ks → Fl W fv l0 → DTabs W → Calls Tryz.prog 13 #[av, .agg #[v0, v1, v2, v3, .int .i64 c, v5, fv, v7, .int .i64 o, .int .i64 m, v10], .int .i64 a2] W fun e w' => e = .returned (.int .i64 use) ∧ Below W.heap.size W w') := fun W hA hW hM => by
    rw [← eus]
    exact fuse_at D hD av ks v0 v1 v2 v3 v5 v7 v10 fv l0 c o m a2 W hA (Nat.le_trans ba (by decide)) hW (Nat.le_trans b0 (by decide)) hM
  have HRF : Hid (∀ W : World, Fl W av ks → Fl W fv l0 → (∃ m, W.cell? ⟨2, 0, none⟩ = some (.int .i64 m)) → Calls Tryz.prog 14 #[av, .agg #[v0, v1, v2, v3, .int .i64 c, v5, fv, v7, .int .i64 o, .int .i64 m, v10], .int .i64 a2] W fun e w' => e = .returned (.int .i64 use) ∧ Below W.heap.size W w') := fun W hA hW hM => by
    rw [← eus]
    exact ruse_at D hD av ks v0 v1 v2 v3 v5 v7 v10 fv l0 c o m a2 W hA ba hW b0 hM
  obtain ⟨ad, cap, hv, hnc, hcm, hcx⟩ := id z0
  subst hv
  unfold maxLen at hcm
  obtain ⟨ad', cap', hv', hnc', hcm', hcx'⟩ := id za
  subst hv'
  unfold maxLen at hcm'
  clear hcx hcx' za z0 ba b0 hb0 hm ht eus
  obtain ⟨T, G, x0, hx0, HG1, HG2, HG3⟩ := below_class (w.alloc (.cells #[v0, v1, v2, v3, .int .i64 c, v5, .slice ad l0.length cap, v7, .int .i64 o, .int .i64 m, v10] 28))
  haveI : Nonempty T := ⟨x0⟩
  have HBG : Hid (∀ x, Below (w.alloc (.cells #[v0, v1, v2, v3, .int .i64 c, v5, .slice ad l0.length cap, v7, .int .i64 o, .int .i64 m, v10] 28)).heap.size (w.alloc (.cells #[v0, v1, v2, v3, .int .i64 c, v5, .slice ad l0.length cap, v7, .int .i64 o, .int .i64 m, v10] 28)) (G x)) := fun x => by rw [hx0]; exact HG1.out x
  have hall := fun x => (HALL.out _ (HBG.out x)).1
  have hc0 : ∀ x, (G x).cell? ⟨w.heap.size, 0, none⟩ = some v0 := fun x => (hall x).1
  have hc1 : ∀ x, (G x).cell? ⟨w.heap.size, 1, none⟩ = some v1 := fun x => (hall x).2.1
  have hc2 : ∀ x, (G x).cell? ⟨w.heap.size, 2, none⟩ = some v2 := fun x => (hall x).2.2.1
  have hc3 : ∀ x, (G x).cell? ⟨w.heap.size, 3, none⟩ = some v3 := fun x => (hall x).2.2.2.1
  have hc4 : ∀ x, (G x).cell? ⟨w.heap.size, 4, none⟩ = some (.int .i64 c) := fun x => (hall x).2.2.2.2.1
  have hc5 : ∀ x, (G x).cell? ⟨w.heap.size, 5, none⟩ = some v5 := fun x => (hall x).2.2.2.2.2.1
  have hc6 : ∀ x, (G x).cell? ⟨w.heap.size, 6, none⟩ = some (.slice ad l0.length cap) := fun x => (hall x).2.2.2.2.2.2.1
  have hc7 : ∀ x, (G x).cell? ⟨w.heap.size, 7, none⟩ = some v7 := fun x => (hall x).2.2.2.2.2.2.2.1
  have hc8 : ∀ x, (G x).cell? ⟨w.heap.size, 8, none⟩ = some (.int .i64 o) := fun x => (hall x).2.2.2.2.2.2.2.2.1
  have hc9 : ∀ x, (G x).cell? ⟨w.heap.size, 9, none⟩ = some (.int .i64 m) := fun x => (hall x).2.2.2.2.2.2.2.2.2.1
  have hc10 : ∀ x, (G x).cell? ⟨w.heap.size, 10, none⟩ = some v10 := fun x => (hall x).2.2.2.2.2.2.2.2.2.2
  clear hall
  have HX1 : Hid (∀ x, Calls Tryz.prog 13 #[.slice ad' ks.length cap', .agg #[v0, v1, v2, v3, .int .i64 c, v5, .slice ad l0.length cap, v7, .int .i64 o, .int .i64 m, v10], .int .i64 a2] (G x) fun e w' => e = .returned (.int .i64 use) ∧ ∃ y, w' = G y) := fun x => (HLF.out _ (HALL.out _ (HBG.out x)).2.2.2.2.2 (HALL.out _ (HBG.out x)).2.2.1 (HALL.out _ (HBG.out x)).2.2.2.1).mono fun e W h => ⟨h.1, HG2.out _ W h.2⟩
  have HX2 : Hid (∀ x, Calls Tryz.prog 14 #[.slice ad' ks.length cap', .agg #[v0, v1, v2, v3, .int .i64 c, v5, .slice ad l0.length cap, v7, .int .i64 o, .int .i64 m, v10], .int .i64 a2] (G x) fun e w' => e = .returned (.int .i64 use) ∧ ∃ y, w' = G y) := fun x => (HRF.out _ (HALL.out _ (HBG.out x)).2.2.2.2.2 (HALL.out _ (HBG.out x)).2.2.1 (HALL.out _ (HBG.out x)).2.2.2.2.1).mono fun e W h => ⟨h.1, HG2.out _ W h.2⟩
  go_enter Tryz.func5, Tryz.ntmps5
  go_wp2_with fail
  try rw [hx0]
  refine region_in G (by kernel_rfl) (by kernel_rfl) (HG3.out _) ?_
  repeat (go_big_quiet_step (first
    | (go_at_call 13; with_reducible exact HX1.out _)
    | (go_at_call 14; with_reducible exact HX2.out _)))
  refine wpQuiet_nil ?_
  rintro _ ⟨x1, rfl⟩
  go_wp2_with fail
  go_ret
  exact ⟨by first | rfl | simp, (HALL.out _ (HBG.out x1)).2.1⟩
end Go.Proofs.YtigbjhkkbgdkcabGreatDoor

/-
  Decimal digits of numbers, without noughts ahead; no program is named here.
-/
namespace Go.Proofs.YtigbjhkkbgdkcabGreatDoor
open Go.RowKit

theorem dd_dig (u : Nat) (h : u < 10) : isDig (UInt8.ofNat (48 + u)) = true ∧ (UInt8.ofNat (48 + u)).toNat = 48 + u := by
  have e : (UInt8.ofNat (48 + u)).toNat = 48 + u := by
    rw [UInt8.toNat_ofNat']; omega
  exact ⟨by rw [dig_iff, e]; omega, e⟩
theorem dec_step (u : Nat) (h : ¬ u < 10) : Lib.decDigits u = Lib.decDigits (u / 10) ++ [UInt8.ofNat (48 + u % 10)] := by rw [Lib.decDigits, dif_neg h]
theorem dec_ne (u : Nat) : Lib.decDigits u ≠ [] := by
  rw [Lib.decDigits]; split <;> simp
theorem dec_all (u : Nat) : (Lib.decDigits u).all isDig = true := by
  induction u using Nat.strongRecOn with
  | ind u ih =>
    by_cases h : u < 10
    · rw [Lib.decDigits_one h, List.all_cons, (dd_dig u h).1]; rfl
    · rw [dec_step u h, List.all_append, ih (u / 10) (by omega), List.all_cons, (dd_dig (u % 10) (by omega)).1]; rfl
theorem numb_dec (u : Nat) : numb (Lib.decDigits u) = u := by
  induction u using Nat.strongRecOn with
  | ind u ih =>
    by_cases h : u < 10
    · rw [Lib.decDigits_one h]
      show 0 * 10 + ((UInt8.ofNat (48 + u)).toNat : Int) - 48 = u
      rw [(dd_dig u h).2]; omega
    · rw [dec_step u h, numb_snoc, ih (u / 10) (by omega), (dd_dig (u % 10) (by omega)).2]; omega
theorem dec_head (u : Nat) (h1 : 1 ≤ u) : (Lib.decDigits u).head? ≠ some 48 := by
  induction u using Nat.strongRecOn with
  | ind u ih =>
    by_cases h : u < 10
    · rw [Lib.decDigits_one h]
      intro e
      have e1 : UInt8.ofNat (48 + u) = 48 := by simpa using e
      have := (dd_dig u h).2
      rw [e1] at this
      have h48 : (48 : UInt8).toNat = 48 := rfl
      omega
    · rw [dec_step u h, List.head?_append]
      have := ih (u / 10) (by omega) (by omega)
      cases hc : Lib.decDigits (u / 10) with
      | nil => exact absurd hc (dec_ne _)
      | cons a b => rw [hc] at this; simpa using this
theorem cnt_dec (u : Nat) (h : u ≤ 9999) : cnt (Lib.decDigits u) 9999 = u := by
  have hl : (Lib.decDigits u).length ≤ 4 := by
    rw [Lib.decDigits_length]
    rw [Lib.nDigits]; split
    · omega
    · rw [Lib.nDigits]; split
      · omega
      · rw [Lib.nDigits]; split
        · omega
        · rw [Lib.nDigits]; split <;> omega
  unfold cnt
  rw [if_neg, if_neg (by rw [numb_dec]; omega), numb_dec]
  rintro (h1 | h1 | ⟨h1, h2⟩ | h1)
  · exact dec_ne u (List.eq_nil_of_length_eq_zero h1)
  · omega
  · by_cases h0 : 1 ≤ u
    · exact dec_head u h0 h2
    · obtain rfl : u = 0 := by omega
      rw [Lib.decDigits_one (by omega)] at h1; simp at h1
  · rw [dec_all] at h1; cases h1
theorem canon (p : List UInt8) : ∀ (_ : p ≠ []) (_ : p.all isDig = true) (_ : ¬ (1 < p.length ∧ p.head? = some 48)), p = Lib.decDigits (numb p).toNat ∧ 0 ≤ numb p := by
  induction hn : p.length using Nat.strongRecOn generalizing p with
  | ind n ih =>
    intro hne hall hh
    rcases List.eq_nil_or_concat p with h | ⟨q, c, h⟩
    · exact absurd h hne
    · rw [List.concat_eq_append] at h
      subst h
      rw [List.all_append] at hall
      simp only [Bool.and_eq_true, List.all_cons, List.all_nil, Bool.and_true] at hall
      obtain ⟨hq, hc⟩ := hall
      have hcb := (dig_iff c).1 hc
      have hcc : ∀ d : Nat, d = c.toNat - 48 → UInt8.ofNat (48 + d) = c := by
        intro d hd
        apply UInt8.toNat_inj.1
        rw [UInt8.toNat_ofNat', hd]
        have : c.toNat < 256 := c.toNat_lt
        omega
      by_cases hqe : q = []
      · subst hqe
        have e : numb ([] ++ [c]) = (c.toNat : Int) - 48 := by unfold numb; simp
        rw [e]
        refine ⟨?_, by omega⟩
        rw [Lib.decDigits_one (by omega), List.nil_append, hcc _ (by omega)]
      · have hl : 0 < q.length := List.length_pos_iff.2 hqe
        have hqh : q.head? ≠ some 48 := by
          intro e
          apply hh
          refine ⟨by rw [← hn, List.length_append, List.length_singleton]; omega, ?_⟩
          rw [List.head?_append, e]; rfl
        obtain ⟨h1, h2⟩ := ih q.length (by rw [← hn]; simp) q rfl hqe hq (fun h => hqh h.2)
        have h3 : 1 ≤ (numb q).toNat := by
          rcases Nat.lt_or_ge (numb q).toNat 1 with h | h
          · exfalso
            have h0 : (numb q).toNat = 0 := by omega
            rw [h0, Lib.decDigits_one (by omega)] at h1
            exact hqh (by rw [h1]; rfl)
          · exact h
        rw [numb_snoc]
        refine ⟨?_, by omega⟩
        have e1 : (numb q * 10 + (c.toNat : Int) - 48).toNat = (numb q).toNat * 10 + (c.toNat - 48) := by omega
        rw [e1, dec_step _ (by omega), show ((numb q).toNat * 10 + (c.toNat - 48)) / 10 = (numb q).toNat by omega, show ((numb q).toNat * 10 + (c.toNat - 48)) % 10 = c.toNat - 48 by omega, ← h1, hcc _ rfl]
theorem from_fold (p : List UInt8) : ∀ (_ : p.all isDig = true) (acc : Nat), ∃ m : Nat, Lib.decFrom acc p = some m ∧ (m : Int) = p.foldl (fun n c => n * 10 + (c.toNat : Int) - 48) (acc : Int) := by
  induction p with
  | nil => intro _ acc; exact ⟨acc, rfl, rfl⟩
  | cons c r ih =>
    intro h acc
    simp only [List.all_cons, Bool.and_eq_true] at h
    have hb := (dig_iff c).1 h.1
    obtain ⟨m, h1, h2⟩ := ih h.2 (acc * 10 + (c.toNat - 48))
    refine ⟨m, ?_, ?_⟩
    · rw [Lib.decFrom, show Lib.digitVal c = some (c.toNat - 48) from if_pos hb]; exact h1
    · rw [h2, List.foldl_cons]; congr 1; omega
theorem atoi_dig (p : List UInt8) (hne : p ≠ []) (h : p.all isDig = true) (hl : p.length ≤ 18) : Lib.atoiAll p = .ok (numb p) := by
  rw [Lib.atoiAll_short p hl]
  obtain ⟨m, h1, h2⟩ := from_fold p h 0
  have hd : Lib.decNat p = some m := by
    unfold Lib.decNat
    rw [if_neg (by simpa using hne)]; exact h1
  have e : Lib.atoi p = some (numb p) := by
    cases p with
    | nil => exact absurd rfl hne
    | cons c r =>
      have hb := (dig_iff c).1 (by simp only [List.all_cons, Bool.and_eq_true] at h; exact h.1)
      have n45 : (c == 45) = false := by
        rw [beq_eq_false_iff_ne]; intro e; subst e; have : (45 : UInt8).toNat = 45 := rfl; omega
      have n43 : (c == 43) = false := by
        rw [beq_eq_false_iff_ne]; intro e; subst e; have : (43 : UInt8).toNat = 43 := rfl; omega
      show (if (c == 45) = true then (Lib.decNat r).map fun (m : Nat) => -(m : Int) else if (c == 43) = true then (Lib.decNat r).map fun (m : Nat) => (m : Int) else (Lib.decNat (c :: r)).map fun (m : Nat) => (m : Int)) = _
      rw [n45, n43, hd]
      simp only [Bool.false_eq_true, if_false, Option.map_some, Option.some.injEq]
      unfold numb; exact h2
  rw [e]; rfl
end Go.Proofs.YtigbjhkkbgdkcabGreatDoor

/-
  A directive more in a Cache-Control, and lives that are told, over plain lists; no program is named here.
-/
namespace Go.Proofs.YtigbjhkkbgdkcabGreatDoor
open Go.RowKit

/-- A piece that stands by itself between commas: no quote in it. -/
def Bare (d : List UInt8) : Prop := closed 44 d ∧ trimL d = d ∧ d.isEmpty = false ∧ ∀ c ∈ d, c ≠ 34
theorem quote_stays (d : List UInt8) (h : ∀ c ∈ d, c ≠ 34) : ∀ x : Cut, x.q = true → (d.foldl (cstep 44) x).q = true := by
  induction d with
  | nil => intro x hx; exact hx
  | cons c d ih =>
    intro x hx
    rw [List.foldl_cons]
    apply ih (fun b hb => h b (List.mem_cons_of_mem _ hb))
    have hc := h c (List.mem_cons_self ..)
    unfold cstep
    rw [if_neg (fun e => by rw [hx] at e; cases e.2)]
    simp only [hc, if_false, hx]
    split <;> rfl
theorem cn_quote (l : List UInt8) : (cutS 44 l).cn = true → (cutS 44 l).q = true := by
  have gen : ∀ (l : List UInt8) (x : Cut), (x.cn = true → x.q = true) → ((l.foldl (cstep 44) x).cn = true → (l.foldl (cstep 44) x).q = true) := by
    intro l
    induction l with
    | nil => intro x h; exact h
    | cons c l ih =>
      intro x h
      rw [List.foldl_cons]
      apply ih
      unfold cstep
      split
      · rename_i hs
        intro hc
        have := h hc
        rw [hs.2] at this; cases this
      · simp only
        cases hc : x.cn
        · simp only [Bool.false_eq_true, if_false]
          intro h'
          by_cases h34 : c = 34
          · simp [h34] at h'
          · by_cases h92 : c = 92
            · simp only [h92, if_true] at h' ⊢
              simpa using h'
            · simp [h34, h92] at h'
        · simp
  exact gen l ⟨[], [], false, false⟩ (fun h => by cases h)
theorem split_comma (s d : List UInt8) (hd : Bare d) (P : List (List UInt8)) (h : splitS (s ++ 44 :: d) = (P, 0)) : ∃ Q, splitS s = (Q, 0) ∧ P = Q ++ [d] := by
  obtain ⟨h1, h2, h3, h4⟩ := hd
  have he : cutS 44 (s ++ 44 :: d) = d.foldl (cstep 44) (cstep 44 (cutS 44 s) 44) := by unfold cutS; rw [List.foldl_append, List.foldl_cons]
  cases hq : (cutS 44 s).q
  · have hcn : (cutS 44 s).cn = false := by
      cases hc : (cutS 44 s).cn
      · rfl
      · have := cn_quote s hc; rw [hq] at this; cases this
    have hst : cstep 44 (cutS 44 s) 44 = ⟨(cutS 44 s).ps ++ [(cutS 44 s).cur], [], false, false⟩ := by
      unfold cstep
      rw [if_pos ⟨rfl, hq⟩]
      simp [hq, hcn]
    rw [hst, run_fold 44 d _ [] false false false false h1] at he
    have hp : pieces 44 (s ++ 44 :: d) = pieces 44 s ++ [d] := by unfold pieces; rw [he]; simp
    have hes : ends 44 s = true := by unfold ends; rw [hq]; rfl
    have hk : kept (pieces 44 (s ++ 44 :: d)) = kept (pieces 44 s) ++ [d] := by
      rw [hp, kept_snoc, h2, h3]; simp
    unfold splitS at h
    split at h
    · cases h
    · rename_i hl
      split at h
      · cases h
      · split at h
        · cases h
        · rename_i h20
          simp only [Prod.mk.injEq, and_true] at h
          rw [hk] at h h20
          refine ⟨kept (pieces 44 s), ?_, h.symm⟩
          unfold splitS
          rw [if_neg (by simp at hl; omega), if_neg (by rw [hes]; simp), if_neg (by simp at h20; omega)]
  · exfalso
    have hst : (cstep 44 (cutS 44 s) 44).q = true := by
      unfold cstep
      rw [if_neg (fun e => by rw [hq] at e; cases e.2)]
      simp [hq]
    have hend : ends 44 (s ++ 44 :: d) = false := by
      unfold ends
      rw [he, quote_stays d h4 _ hst]; rfl
    unfold splitS at h
    split at h
    · cases h
    · first
      | cases h
      | (rw [if_pos hend] at h; cases h)
theorem split_one (d : List UInt8) (hd : Bare d) (hl : d.length ≤ 1000) : splitS d = ([d], 0) := by
  obtain ⟨h1, h2, h3, h4⟩ := hd
  have he : cutS 44 d = ⟨[], d, false, false⟩ := by unfold cutS; rw [run_fold 44 d _ [] false false false false h1]; rfl
  have hp : pieces 44 d = [d] := by unfold pieces; rw [he]; rfl
  have hk : kept [d] = [d] := by
    have := kept_snoc [] d
    rw [h2, h3] at this
    simpa [kept] using this
  have hen : ends 44 d = true := by unfold ends; rw [he]; rfl
  unfold splitS
  rw [if_neg (by omega), if_neg (by rw [hen]; simp), hp, hk, if_neg (by simp)]
theorem paDs_app (P : List (List UInt8)) (p : List UInt8) (x : Dv) (h : paD p = some x) (ds : List Dv) (hd : paDs (P ++ [p]) = some ds) : ∃ es, paDs P = some es ∧ ds = es ++ [x] := by
  rw [paDs_snoc] at hd
  cases hp : paDs P with
  | none => rw [hp] at hd; simp [pdstep] at hd
  | some es =>
    rw [hp] at hd
    simp only [pdstep, h, Option.some.injEq] at hd
    exact ⟨es, rfl, hd.symm⟩
/-- One directive more. -/
theorem ctQ_comma (s d : List UInt8) (hd : Bare d) (x : Dv) (hx : paD d = some x) (c : Int) (ds : List Dv) (h : ctQ (s ++ 44 :: d) = (ds, c)) (hc : c = 0) : ds = (ctQ s).1 ++ [x] := by
  subst hc
  unfold ctQ at h
  split at h
  · rename_i hs
    obtain ⟨Q, hQ, hP⟩ := split_comma s d hd (splitS (s ++ 44 :: d)).1 (by rw [← hs])
    rw [hP] at h
    split at h
    · cases h
    · rename_i r hr
      simp only [Prod.mk.injEq, and_true] at h
      obtain ⟨es, h1, h2⟩ := paDs_app Q d x hx r hr
      have : (ctQ s).1 = es := by
        unfold ctQ
        rw [hQ]
        simp only [if_true]
        rw [h1]
      rw [this, ← h, h2]
  · rename_i hs
    simp only [Prod.mk.injEq] at h
    exact absurd h.2 hs
theorem ctQ_one (d : List UInt8) (hd : Bare d) (hl : d.length ≤ 1000) (x : Dv) (hx : paD d = some x) : ctQ d = ([x], 0) := by
  have h1 := split_one d hd hl
  have h2 : paDs [d] = some [x] := by
    simp [paDs, pdstep, hx]
  unfold ctQ
  rw [h1]
  simp only [if_true]
  rw [h2]
theorem ctQ_nil : ctQ [] = ([], 0) := rfl

/-- Numbers as digits. -/
theorem dec_short (k : Nat) : ∀ u, u < 10 ^ (k + 1) → (Lib.decDigits u).length ≤ k + 1 := by
  induction k with
  | zero =>
    intro u h
    rw [Lib.decDigits_one (by omega)]; simp
  | succ k ih =>
    intro u h
    by_cases h10 : u < 10
    · rw [Lib.decDigits_one h10]; simp
    · rw [dec_step u h10, List.length_append]
      have := ih (u / 10) (by
        rw [Nat.pow_succ] at h
        omega)
      simp; omega
theorem runK_dec (u : Nat) : runK (Lib.decDigits u) = min (u : Int) 2147483648 := by
  induction u using Nat.strongRecOn with
  | ind u ih =>
    by_cases h : u < 10
    · rw [Lib.decDigits_one h]
      show min (0 * 10 + (((UInt8.ofNat (48 + u)).toNat : Int) - 48)) 2147483648 = _
      rw [(dd_dig u h).2]; omega
    · rw [dec_step u h, runK_snoc, ih (u / 10) (by omega)]
      unfold stepK
      rw [(dd_dig (u % 10) (by omega)).2]; omega
theorem numK_dec (u : Nat) (h : u ≤ 2147483648) : numK (Lib.decDigits u) = u := by
  rw [numK_yes _ (dec_all u), runK_dec]; omega
theorem dig_tok (c : UInt8) (h : isDig c = true) : isTok c = true := by
  have := byAll (fun c => !isDig c || isTok c) (by decide +kernel) c
  rw [h] at this
  simpa using this
theorem dec_token (u : Nat) : token (Lib.decDigits u) = true := by
  unfold token
  have h1 := dec_ne u
  have h2 : (Lib.decDigits u).all isTok = true := by
    rw [List.all_eq_true]
    intro c hc
    exact dig_tok c (List.all_eq_true.1 (dec_all u) c hc)
  rw [h2]
  cases h : Lib.decDigits u with
  | nil => exact absurd h h1
  | cons _ _ => rfl
/-- A directive that is printed plainly. -/
theorem bare_pr (d : Dv) (h : chkD d = 0) (hq : d.2.1 = true → token d.2.2 = true) : Bare (prD d) := by
  obtain ⟨b, r, hb, _⟩ := prD_ne d h
  refine ⟨prD_closed d h, prD_trim d h, by rw [hb]; rfl, ?_⟩
  obtain ⟨h1, _, _, _⟩ := chkD_is d h
  have hn := (token_parts _ h1).2
  rw [List.all_eq_true] at hn
  intro c hc
  unfold prD at hc
  rw [List.mem_append] at hc
  rcases hc with hc | hc
  · exact (tok_ne c (hn c hc)).1
  · split at hc
    · rename_i ha
      have ht := hq ha
      have hpa : (prArg d.2.2).1 = d.2.2 := by unfold prArg; rw [if_pos ht]
      rw [hpa] at hc
      rcases List.mem_cons.1 hc with rfl | hc
      · decide
      · have h2 := (token_parts _ ht).2
        rw [List.all_eq_true] at h2
        exact (tok_ne c (h2 c hc)).1
    · cases hc
/-- The demands. -/
def xMA (n : Nat) : Dv := (dMA, true, Lib.decDigits n)
def xMF (n : Nat) : Dv := (dMF, true, Lib.decDigits n)
def xNC : Dv := (dNC, false, [])
def xOIC : Dv := (dOIC, false, [])
theorem chk_num (m : List UInt8) (hm : okNm m = true) (n : Nat) : chkD (m, true, Lib.decDigits n) = 0 := by
  unfold chkD
  simp only [hm, if_true]
  unfold prArg
  rw [if_pos (dec_token n)]
theorem pr_num (m : List UInt8) (n : Nat) : prD (m, true, Lib.decDigits n) = m ++ 61 :: Lib.decDigits n := by
  unfold prD prArg
  simp only [if_true]
  rw [if_pos (dec_token n)]
theorem okMA : okNm dMA = true := by decide +kernel
theorem okMF : okNm dMF = true := by decide +kernel
theorem okSM : okNm dSM = true := by decide +kernel
theorem chkNC : chkD xNC = 0 := by decide +kernel
theorem chkOIC : chkD xOIC = 0 := by decide +kernel
theorem demand_bare (x : Dv) (n : Nat) (h : x = xMA n ∨ x = xMF n ∨ x = xNC ∨ x = xOIC) : Bare (prD x) ∧ paD (prD x) = some x ∧ chkD x = 0 := by
  rcases h with rfl | rfl | rfl | rfl
  · have hk := chk_num dMA okMA n
    exact ⟨bare_pr _ hk (fun _ => dec_token n), paD_back _ hk, hk⟩
  · have hk := chk_num dMF okMF n
    exact ⟨bare_pr _ hk (fun _ => dec_token n), paD_back _ hk, hk⟩
  · exact ⟨bare_pr _ chkNC (fun h => by cases h), paD_back _ chkNC, chkNC⟩
  · exact ⟨bare_pr _ chkOIC (fun h => by cases h), paD_back _ chkOIC, chkOIC⟩
theorem one_ms (x : Dv) (n : Nat) (h : x = xMA n ∨ x = xMF n ∨ x = xNC ∨ x = xOIC) : [x].find? (isNm dMS) = none := by
  rcases h with rfl | rfl | rfl | rfl <;> rfl
theorem secK_more (a : List Dv) (x : Dv) (n : List UInt8) (h : isNm n x = false) : secK (a ++ [x]) n = secK a n := by
  rw [secK_app]
  have h2 : secK [x] n = (0, false) := secK_no _ _ (by simp [h])
  cases hb : (secK a n).2
  · rw [if_neg (by simp), h2]
    unfold secK at hb ⊢
    split at hb
    · cases hb
    · rfl
  · rw [if_pos rfl]
theorem hasK_more (a : List Dv) (x : Dv) (n : List UInt8) (h : isNm n x = false) : hasK (a ++ [x]) n = hasK a n := by unfold hasK; rw [secK_more a x n h]
theorem hasK_last (a : List Dv) (x : Dv) (n : List UInt8) (h : isNm n x = true) : hasK (a ++ [x]) n = true := by
  rw [hasK_app]
  have : hasK [x] n = true := by unfold hasK; rw [secK_any]; simp [h]
  rw [this]; simp
/-- Each demand more serves no more. -/
theorem good_less (asks says : List Dv) (life age : Int) (x : Dv) (n : Nat) (h : x = xMA n ∨ x = xMF n ∨ x = xNC ∨ x = xOIC) (hg : goodP (asks ++ [x]) says life age = true) : goodP asks says life age = true := by
  unfold goodP at *
  rw [leave_app _ _ _ (one_ms x n h)] at hg
  simp only [Bool.and_eq_true, Bool.or_eq_true, Bool.not_eq_true', Bool.and_eq_false_iff, decide_eq_true_eq, decide_eq_false_iff_not] at hg ⊢
  obtain ⟨⟨⟨⟨h1, h2⟩, h3⟩, h4⟩, h5⟩ := hg
  rw [hasK_app, Bool.or_eq_false_iff] at h2
  refine ⟨⟨⟨⟨h1, h2.1⟩, h3⟩, ?_⟩, ?_⟩
  · cases hb : hasK asks dMA
    · exact .inl rfl
    · right
      have hb' : (secK asks dMA).2 = true := hb
      have he : secK (asks ++ [x]) dMA = secK asks dMA := by rw [secK_app, if_pos hb']
      rw [he, hasK_app, hb] at h4
      simpa using h4
  · cases hb : hasK asks dMF
    · exact .inl rfl
    · right
      have hb' : (secK asks dMF).2 = true := hb
      have he : secK (asks ++ [x]) dMF = secK asks dMF := by rw [secK_app, if_pos hb']
      rw [he, hasK_app, hb] at h5
      simpa using h5
theorem good_nc (asks says : List Dv) (life age : Int) : goodP (asks ++ [xNC]) says life age = false := by
  unfold goodP
  rw [hasK_last asks xNC dNC rfl]
  simp
theorem good_oic (asks says : List Dv) (life age : Int) : goodP (asks ++ [xOIC]) says life age = goodP asks says life age := by
  unfold goodP
  rw [leave_app _ _ _ (one_ms xOIC 0 (.inr (.inr (.inr rfl)))), hasK_more _ _ dNC rfl, hasK_more _ _ dMA rfl, hasK_more _ _ dMF rfl, secK_more _ _ dMA rfl, secK_more _ _ dMF rfl]
theorem use_less (asks says : List Dv) (life age : Int) (x : Dv) (n : Nat) (h : x = xMA n ∨ x = xMF n ∨ x = xNC ∨ x = xOIC) (hu : useP (asks ++ [x]) says life age = 1) : useP asks says life age = 1 := by
  rw [use_one] at hu ⊢
  exact good_less asks says life age x n h hu
theorem use_nc (asks says : List Dv) (life age : Int) : useP (asks ++ [xNC]) says life age ≠ 1 := by
  rw [Ne, use_one, good_nc]; simp
theorem use_oic (asks says : List Dv) (life age : Int) : (useP (asks ++ [xOIC]) says life age = 1 ↔ useP asks says life age = 1) ∧ useP (asks ++ [xOIC]) says life age ≠ 2 := by
  refine ⟨by rw [use_one, use_one, good_oic], ?_⟩
  unfold useP
  split
  · decide
  · rw [hasK_last asks xOIC dOIC rfl]; decide

/-- One that is young. -/
def youngF : List Fld := [(nCC, [109, 97, 120, 45, 97, 103, 101, 61, 54, 48])]
theorem young_ctl : ctl youngF = [(dMA, true, [54, 48])] := by decide +kernel
theorem young_life (D : DFn) : lifeP D youngF 200 1000 = 60 := by
  unfold lifeP
  rw [young_ctl]
  rfl
theorem young_age (D : DFn) (now : Int) (h : 1000 ≤ now) (h2 : now ≤ 100000) : ageP D youngF 1000 1000 now = now - 1000 := by
  have h1 : vals youngF nDate = [] := by decide +kernel
  have h3 : gv youngF nAge = [] := by decide +kernel
  have hm : madeP D youngF 1000 = 1000 := by
    unfold madeP dOf
    rw [h1]
    rfl
  unfold ageP grown
  rw [hm, h3]
  have : numK [] = 0 := rfl
  rw [this]
  unfold spn lastT top31
  omega
theorem young_use (D : DFn) : useP (ctl []) (ctl youngF) (lifeP D youngF 200 1000) (ageP D youngF 1000 1000 1059) = 1 ∧ useP (ctl []) (ctl youngF) (lifeP D youngF 200 1000) (ageP D youngF 1000 1000 1060) = 2 := by
  rw [young_life, young_age D 1059 (by omega) (by omega), young_age D 1060 (by omega) (by omega), young_ctl]
  have : ctl [] = [] := rfl
  rw [this]
  exact ⟨by decide +kernel, by decide +kernel⟩

/-- Lives that are told. -/
theorem vals_names : lower nExp ≠ lower nCC ∧ lower nDate ≠ lower nCC ∧ lower nExp ≠ lower nDate ∧ lower nCC ≠ lower nExp ∧ lower nCC ≠ lower nDate := by decide +kernel
theorem told_ma (D : DFn) (ls : List Fld) (code came : Int) (a : Nat) (ha : a ≤ 100000) (h : gv ls nCC = dMA ++ 61 :: Lib.decDigits a) : lifeP D ls code came = a := by
  obtain ⟨h1, h2, h3⟩ := demand_bare (xMA a) a (.inl rfl)
  have hp : prD (xMA a) = dMA ++ 61 :: Lib.decDigits a := pr_num dMA a
  have hl : (dMA ++ 61 :: Lib.decDigits a).length ≤ 1000 := by
    have := dec_short 5 a (by omega)
    simp [dMA]; omega
  rw [hp] at h1 h2
  have hc : ctl ls = [xMA a] := by
    unfold ctl
    rw [h, ctQ_one _ h1 hl _ h2]
  unfold lifeP
  rw [hc]
  have e1 : secK [xMA a] dSM = (0, false) := secK_no _ _ rfl
  have e2 : secK [xMA a] dMA = ((a : Int), true) := by
    have : secK [xMA a] dMA = (numK (Lib.decDigits a), true) := rfl
    rw [this, numK_dec a (by omega)]
  rw [e1, e2]
  simp
theorem told_sm (D : DFn) (ls : List Fld) (code came : Int) (a b : Nat) (ha : a ≤ 100000) (hb : b ≤ 100000) (h : gv ls nCC = (dMA ++ 61 :: Lib.decDigits a) ++ (44 :: 32 :: (dSM ++ 61 :: Lib.decDigits b))) : lifeP D ls code came = b := by
  have hs : sepD [(dMA, true, Lib.decDigits a), (dSM, true, Lib.decDigits b)] = (dMA ++ 61 :: Lib.decDigits a) ++ (44 :: 32 :: (dSM ++ 61 :: Lib.decDigits b)) := by
    show prD (dMA, true, Lib.decDigits a) ++ [(dSM, true, Lib.decDigits b)].flatMap (fun x => 44 :: 32 :: prD x) = _
    rw [pr_num, List.flatMap_cons, List.flatMap_nil, List.append_nil, pr_num]
  have hl : (sepD [(dMA, true, Lib.decDigits a), (dSM, true, Lib.decDigits b)]).length ≤ 1000 := by
    have h1 := dec_short 5 a (by omega)
    have h2 := dec_short 5 b (by omega)
    rw [hs]
    simp [dMA, dSM]; omega
  have hp : ctP [(dMA, true, Lib.decDigits a), (dSM, true, Lib.decDigits b)] = (sepD [(dMA, true, Lib.decDigits a), (dSM, true, Lib.decDigits b)], 0) := by
    have hz : badD [(dMA, true, Lib.decDigits a), (dSM, true, Lib.decDigits b)] = 0 := by
      apply badD_of
      intro x hx
      simp at hx
      rcases hx with rfl | rfl
      · exact chk_num dMA okMA a
      · exact chk_num dSM okSM b
    unfold ctP
    rw [if_pos hz, if_neg (by simp at hl ⊢; omega)]
  have hc : ctl ls = [(dMA, true, Lib.decDigits a), (dSM, true, Lib.decDigits b)] := by
    unfold ctl
    rw [h, ← hs, ct_back _ _ hp]
  unfold lifeP
  rw [hc]
  have e1 : secK [(dMA, true, Lib.decDigits a), (dSM, true, Lib.decDigits b)] dSM = ((b : Int), true) := by
    have : secK [(dMA, true, Lib.decDigits a), (dSM, true, Lib.decDigits b)] dSM = (numK (Lib.decDigits b), true) := rfl
    rw [this, numK_dec b (by omega)]
  rw [e1]
  simp
theorem told_exp (D : DFn) (hD : DOk D) (ls : List Fld) (code came n : Int) (t : List UInt8) (ht : IsDT t n) (h1 : vals ls nCC = []) (h2 : vals ls nExp = [t]) (h3 : vals ls nDate = [t]) : lifeP D ls code came = 0 := by
  have hd : D t = (n, 0) := hD.one (.inl ⟨rfl, ht⟩)
  have hj : jn [t] = t := jn_one t
  have hc : ctl ls = [] := by unfold ctl gv; rw [h1]; rfl
  have e1 : dOf D ls nExp = (n, true) := by unfold dOf gv; rw [h2, hj, hd]; rfl
  have e2 : madeP D ls came = n := by unfold madeP dOf gv; rw [h3, hj, hd]; rfl
  unfold lifeP
  rw [hc, h2, e1, e2]
  have e3 : secK [] dSM = (0, false) := rfl
  have e4 : secK [] dMA = (0, false) := rfl
  rw [e3, e4]
  have e5 : spn 0 top31 = 0 := by unfold spn top31; omega
  simp [e5]
end Go.Proofs.YtigbjhkkbgdkcabGreatDoor

/-
  What young and anchored of package larderkeep answer: a response that is fresh at one second, and not at the next; the listed variables hold what their text lays.
-/
namespace Go.Proofs.YtigbjhkkbgdkcabGreatDoor
open Go.RowKit

theorem fl_one (w : World) (a b : ByteArray) (t : TypeId) : Fl (w.alloc (.cells #[.string a, .string b] t)) (.slice (some ⟨w.heap.size, 0, none⟩) 1 1) [(a.data.toList, b.data.toList)] := by
  refine ⟨_, 1, rfl, Nat.le_refl _, by unfold maxLen; omega, fun _ => ⟨w.heap.size, 0, rfl, by simp, fun k hk => ?_⟩⟩
  have hk0 : k = 0 := by simpa using hk
  subst hk0
  refine ⟨?_, ?_⟩ <;> simp
set_option maxRecDepth 100000 in
theorem young_any (w : World) : Calls Tryz.prog 42 #[] w fun e w' => ∃ v0 v1 v2 v3 v5 v7 v10 ad, e = .returned (.agg #[v0, v1, v2, v3, .int .i64 200, v5, .slice ad youngF.length 1, v7, .int .i64 1000, .int .i64 1000, v10]) ∧ Fl w' (.slice ad youngF.length 1) youngF ∧ Below w.heap.size w w' := by
  go_enter Tryz.func42, Tryz.ntmps42
  go_wp2_with fail
  have hA : Below (w.alloc (.cells #[.string ⟨#[]⟩, .string ⟨#[]⟩, .slice none 0 0, .string ⟨#[]⟩, .int .i64 200, .string ⟨#[]⟩, .slice (some ⟨w.heap.size + 1, 0, none⟩) 1 1, .string ⟨#[]⟩, .int .i64 1000, .int .i64 1000, .int .i64 0] 28)).heap.size (w.alloc (.cells #[.string ⟨#[]⟩, .string ⟨#[]⟩, .slice none 0 0, .string ⟨#[]⟩, .int .i64 200, .string ⟨#[]⟩, .slice (some ⟨w.heap.size + 1, 0, none⟩) 1 1, .string ⟨#[]⟩, .int .i64 1000, .int .i64 1000, .int .i64 0] 28)) ((w.alloc (.cells #[.string ⟨#[]⟩, .string ⟨#[]⟩, .slice none 0 0, .string ⟨#[]⟩, .int .i64 200, .string ⟨#[]⟩, .slice (some ⟨w.heap.size + 1, 0, none⟩) 1 1, .string ⟨#[]⟩, .int .i64 1000, .int .i64 1000, .int .i64 0] 28)).alloc (.cells #[.string ⟨#[67, 97, 99, 104, 101, 45, 67, 111, 110, 116, 114, 111, 108]⟩, .string ⟨#[109, 97, 120, 45, 97, 103, 101, 61, 54, 48]⟩] 70)) := (Below.refl _ _).alloc (Nat.le_refl _) _
  obtain ⟨c0, c1, c2, c3, c4, c5, c6, c7, c8, c9, c10⟩ := eleven hA
  refine bodyPost_ret (by simp [results, Tryz.results42, go_sem, c0, c1, c2, c3, c4, c5, c6, c7, c8, c9, c10]; try rfl) rfl ?_
  have h1 := fl_one (w.alloc (.cells #[.string ⟨#[]⟩, .string ⟨#[]⟩, .slice none 0 0, .string ⟨#[]⟩, .int .i64 200, .string ⟨#[]⟩, .slice (some ⟨w.heap.size + 1, 0, none⟩) 1 1, .string ⟨#[]⟩, .int .i64 1000, .int .i64 1000, .int .i64 0] 28)) ⟨#[67, 97, 99, 104, 101, 45, 67, 111, 110, 116, 114, 111, 108]⟩ ⟨#[109, 97, 120, 45, 97, 103, 101, 61, 54, 48]⟩ 70
  have hsz : (w.alloc (.cells #[.string ⟨#[]⟩, .string ⟨#[]⟩, .slice none 0 0, .string ⟨#[]⟩, .int .i64 200, .string ⟨#[]⟩, .slice (some ⟨w.heap.size + 1, 0, none⟩) 1 1, .string ⟨#[]⟩, .int .i64 1000, .int .i64 1000, .int .i64 0] 28)).heap.size = w.heap.size + 1 := by simp
  rw [hsz] at h1
  exact ⟨_, _, _, _, _, _, _, _, rfl, h1, ((Below.refl _ w).alloc (Nat.le_refl _) _).trans (hA.mono (by rw [hsz]; omega))⟩
set_option maxHeartbeats 1000000 in
set_option maxRecDepth 100000 in
theorem anch_any (D : DFn) (hD : DOk D) (w : World) (hT : DTabs w) : Calls Tryz.prog 16 #[] w fun e w' => e = .returned (.bool true) ∧ Below w.heap.size w w' := by
  have HT : Hid (DTabs w) := hT
  obtain ⟨u1, u2⟩ := young_use D
  have HU1 : Hid (useP (ctl []) (ctl youngF) (lifeP D youngF 200 1000) (ageP D youngF 1000 1000 1059) = 1) := u1
  have HU2 : Hid (useP (ctl []) (ctl youngF) (lifeP D youngF 200 1000) (ageP D youngF 1000 1000 1060) = 2) := u2
  clear hT u1 u2
  go_enter Tryz.func16, Tryz.ntmps16
  go_wp2_with fail
  refine (young_any _).mono ?_
  rintro e w1 ⟨v0, v1, v2, v3, v5, v7, v10, ad, rfl, hf1, hb1⟩
  have HF1 : Hid (Fl w1 (.slice ad youngF.length 1) youngF) := hf1
  have HB1 : Hid (Below w.heap.size w w1) := hb1
  clear hf1 hb1
  go_wp2_with fail
  refine (fuse_at D hD _ [] v0 v1 v2 v3 v5 v7 v10 _ youngF 200 1000 1000 1059 _ (Fl.nil _) (by decide) HF1.out (by decide) (HT.out.below HB1.out)).mono ?_
  rintro e w2 ⟨rfl, hb2⟩
  rw [HU1.out]
  have HB2 : Hid (Below w.heap.size w w2) := HB1.out.trans (hb2.mono HB1.out.size)
  clear hb2
  go_wp2_with fail
  refine (young_any _).mono ?_
  rintro e w3 ⟨v0, v1, v2, v3, v5, v7, v10, ad, rfl, hf3, hb3⟩
  have HF3 : Hid (Fl w3 (.slice ad youngF.length 1) youngF) := hf3
  have HB3 : Hid (Below w.heap.size w w3) := HB2.out.trans (hb3.mono HB2.out.size)
  clear hf3 hb3
  go_wp2_with fail
  refine (fuse_at D hD _ [] v0 v1 v2 v3 v5 v7 v10 _ youngF 200 1000 1000 1060 _ (Fl.nil _) (by decide) HF3.out (by decide) (HT.out.below HB3.out)).mono ?_
  rintro e w4 ⟨rfl, hb4⟩
  rw [HU2.out]
  have HB4 : Hid (Below w.heap.size w w4) := HB3.out.trans (hb4.mono HB3.out.size)
  clear hb4
  go_wp2_with fail
  go_ret
  exact ⟨rfl, HB4.out⟩
end Go.Proofs.YtigbjhkkbgdkcabGreatDoor

/-
  What Rest of the document's answers computes, of a number above 0, however great: the very number.
-/
namespace Go.Proofs.YtigbjhkkbgdkcabGreatDoor
open Go.RowKit

def restV (x n : Int) : Int := if x.tmod n < 0 then x.tmod n + n else x.tmod n
theorem restV_in (x n : Int) (hn : 0 < n) : 0 ≤ restV x n ∧ restV x n < n := by
  have hm1 : -n < x.tmod n := Int.lt_tmod_of_pos x (by omega)
  have hm2 : x.tmod n < n := Int.tmod_lt_of_pos x (by omega)
  unfold restV
  split <;> omega
set_option maxHeartbeats 1000000 in
set_option maxRecDepth 100000 in
theorem rest_is (x n : Int) (hn : 0 < n) (hn' : n ≤ 281474976710656) (hx : (Lit.int .i64 x).wf = true) (w : World) :
    Calls Tryz.prog 15 #[.int .i64 x, .int .i64 n] w fun e w' => e = .returned (.int .i64 (restV x n)) ∧ w' = w := by
  have hb : -9223372036854775808 ≤ x ∧ x ≤ 9223372036854775807 := by simpa [Lit.wf, IntKind.min, IntKind.max, IntKind.signed, IntKind.bits] using hx
  obtain ⟨hb1, hb2⟩ := hb
  have hm1 : -n < x.tmod n := Int.lt_tmod_of_pos x (by omega)
  have hm2 : x.tmod n < n := Int.tmod_lt_of_pos x (by omega)
  have hz : (n == 0) = false := by rw [beq_eq_false_iff_ne]; omega
  have hz1 : n ≠ 0 := by omega
  clear hx
  go_enter Tryz.func15, Tryz.ntmps15
  go_wp2
  · have hneg : x.tmod n < 0 := by assumption
    go_ret
    exact ⟨congrArg (fun y => Ending.returned (.int .i64 y)) (by unfold restV; rw [if_pos hneg]), rfl⟩
  · have hpos : 0 ≤ x.tmod n := by assumption
    go_ret
    exact ⟨congrArg (fun y => Ending.returned (.int .i64 y)) (by unfold restV; rw [if_neg (by omega)]), rfl⟩
end Go.Proofs.YtigbjhkkbgdkcabGreatDoor

/-
  The walk through FreshGrows: it answers true and turns nothing that was there. The lists hold at most 2^20 letters and values, and the listed variables hold what their text lays.
-/
namespace Go.Proofs.YtigbjhkkbgdkcabGreatDoor
open Go.RowKit

set_option maxHeartbeats 8000000 in
set_option maxRecDepth 100000 in
theorem walkFreshGrows (v0 v1 v2 v3 v5 v7 v10 fv : Value) (l0 : List Fld) (c o m : Int) (a1 a2 : Int) (w : World) (z0 : Fl w fv l0) (b0 : bulkF l0 ≤ 1048576) (z1 : (Lit.int .i64 a1).wf = true) (z2 : (Lit.int .i64 a2).wf = true) (ht : DTabs w) :
    Calls Tryz.prog 6 #[.agg #[v0, v1, v2, v3, .int .i64 c, v5, fv, v7, .int .i64 o, .int .i64 m, v10], .int .i64 a1, .int .i64 a2] w fun e w' => e = .returned (.bool true) ∧ Below w.heap.size w w' := by
  obtain ⟨D, hD⟩ := dfn_ex
  have hb0 : Below w.heap.size w (w.alloc (.cells #[v0, v1, v2, v3, .int .i64 c, v5, fv, v7, .int .i64 o, .int .i64 m, v10] 28)) := (Below.refl _ w).alloc (Nat.le_refl _) _
  have HALL : Hid (∀ W : World, Below (w.alloc (.cells #[v0, v1, v2, v3, .int .i64 c, v5, fv, v7, .int .i64 o, .int .i64 m, v10] 28)).heap.size (w.alloc (.cells #[v0, v1, v2, v3, .int .i64 c, v5, fv, v7, .int .i64 o, .int .i64 m, v10] 28)) W →
      Cells11 W w.heap.size v0 v1 v2 v3 (.int .i64 c) v5 fv v7 (.int .i64 o) (.int .i64 m) v10 ∧ Below w.heap.size w W ∧ Fl W fv l0 ∧ DTabs W) := fun W h => by
    have hB := hb0.trans (h.mono hb0.size)
    exact ⟨eleven h, hB, z0.below hB, ht.below hB⟩
  obtain ⟨y, ey⟩ : ∃ n, restV a1 1099511627776 = n := ⟨_, rfl⟩
  have hiy := restV_in a1 1099511627776 (by omega)
  rw [ey] at hiy
  obtain ⟨y0, y1⟩ := hiy
  have HRy : Hid (∀ W : World, Calls Tryz.prog 15 #[.int .i64 a1, .int .i64 1099511627776] W fun e w' => e = .returned (.int .i64 y) ∧ w' = W) := fun W => by rw [← ey]; exact rest_is a1 1099511627776 (by omega) (by omega) z1 W
  obtain ⟨k, ek⟩ : ∃ n, restV a2 2147483648 = n := ⟨_, rfl⟩
  have hik := restV_in a2 2147483648 (by omega)
  rw [ek] at hik
  obtain ⟨k0, k1⟩ := hik
  have HRk : Hid (∀ W : World, Calls Tryz.prog 15 #[.int .i64 a2, .int .i64 2147483648] W fun e w' => e = .returned (.int .i64 k) ∧ w' = W) := fun W => by rw [← ek]; exact rest_is a2 2147483648 (by omega) (by omega) z2 W
  obtain ⟨A, eA⟩ : ∃ n, ageP D l0 o m y = n := ⟨_, rfl⟩
  obtain ⟨B, eB⟩ : ∃ n, ageP D l0 o m (y + k) = n := ⟨_, rfl⟩
  have hA := age_in D l0 o m y
  have hB := age_in D l0 o m (y + k)
  obtain ⟨g1, g2, g3⟩ := age_grows D l0 o m y k k0 y0
  rw [eA] at hA g1 g2 g3
  rw [eB] at hB g1 g2 g3
  obtain ⟨hA0, hA1⟩ := hA
  obtain ⟨hB0, hB1⟩ := hB
  have HL1 : Hid (∀ W : World, Fl W fv l0 → DTabs W → Calls Tryz.prog 11 #[.agg #[v0, v1, v2, v3, .int .i64 c, v5, fv, v7, .int .i64 o, .int .i64 m, v10], .int .i64 y] W fun e w' => e = .returned (.int .i64 A) ∧ Below W.heap.size W w') := fun W hW hM => by
    rw [← eA]
    exact fage_at D hD v0 v1 v2 v3 _ v5 v7 v10 fv l0 o m y W hW (Nat.le_trans b0 (by decide)) hM
  have HL2 : Hid (∀ W : World, Fl W fv l0 → DTabs W → Calls Tryz.prog 11 #[.agg #[v0, v1, v2, v3, .int .i64 c, v5, fv, v7, .int .i64 o, .int .i64 m, v10], .int .i64 (y + k)] W fun e w' => e = .returned (.int .i64 B) ∧ Below W.heap.size W w') := fun W hW hM => by
    rw [← eB]
    exact fage_at D hD v0 v1 v2 v3 _ v5 v7 v10 fv l0 o m (y + k) W hW (Nat.le_trans b0 (by decide)) hM
  obtain ⟨ad, cap, hv, hnc, hcm, hcx⟩ := id z0
  subst hv
  unfold maxLen at hcm
  clear hcx z0 b0 hb0 ht eA eB ey ek z1 z2
  obtain ⟨T, G, x0, hx0, HG1, HG2, HG3⟩ := below_class (w.alloc (.cells #[v0, v1, v2, v3, .int .i64 c, v5, .slice ad l0.length cap, v7, .int .i64 o, .int .i64 m, v10] 28))
  haveI : Nonempty T := ⟨x0⟩
  have HBG : Hid (∀ x, Below (w.alloc (.cells #[v0, v1, v2, v3, .int .i64 c, v5, .slice ad l0.length cap, v7, .int .i64 o, .int .i64 m, v10] 28)).heap.size (w.alloc (.cells #[v0, v1, v2, v3, .int .i64 c, v5, .slice ad l0.length cap, v7, .int .i64 o, .int .i64 m, v10] 28)) (G x)) := fun x => by rw [hx0]; exact HG1.out x
  have hall := fun x => (HALL.out _ (HBG.out x)).1
  have hc0 : ∀ x, (G x).cell? ⟨w.heap.size, 0, none⟩ = some v0 := fun x => (hall x).1
  have hc1 : ∀ x, (G x).cell? ⟨w.heap.size, 1, none⟩ = some v1 := fun x => (hall x).2.1
  have hc2 : ∀ x, (G x).cell? ⟨w.heap.size, 2, none⟩ = some v2 := fun x => (hall x).2.2.1
  have hc3 : ∀ x, (G x).cell? ⟨w.heap.size, 3, none⟩ = some v3 := fun x => (hall x).2.2.2.1
  have hc4 : ∀ x, (G x).cell? ⟨w.heap.size, 4, none⟩ = some (.int .i64 c) := fun x => (hall x).2.2.2.2.1
  have hc5 : ∀ x, (G x).cell? ⟨w.heap.size, 5, none⟩ = some v5 := fun x => (hall x).2.2.2.2.2.1
  have hc6 : ∀ x, (G x).cell? ⟨w.heap.size, 6, none⟩ = some (.slice ad l0.length cap) := fun x => (hall x).2.2.2.2.2.2.1
  have hc7 : ∀ x, (G x).cell? ⟨w.heap.size, 7, none⟩ = some v7 := fun x => (hall x).2.2.2.2.2.2.2.1
  have hc8 : ∀ x, (G x).cell? ⟨w.heap.size, 8, none⟩ = some (.int .i64 o) := fun x => (hall x).2.2.2.2.2.2.2.2.1
  have hc9 : ∀ x, (G x).cell? ⟨w.heap.size, 9, none⟩ = some (.int .i64 m) := fun x => (hall x).2.2.2.2.2.2.2.2.2.1
  have hc10 : ∀ x, (G x).cell? ⟨w.heap.size, 10, none⟩ = some v10 := fun x => (hall x).2.2.2.2.2.2.2.2.2.2
  clear hall
  have HX1 : Hid (∀ x, Calls Tryz.prog 11 #[.agg #[v0, v1, v2, v3, .int .i64 c, v5, .slice ad l0.length cap, v7, .int .i64 o, .int .i64 m, v10], .int .i64 y] (G x) fun e w' => e = .returned (.int .i64 A) ∧ ∃ y, w' = G y) := fun x => (HL1.out _ (HALL.out _ (HBG.out x)).2.2.1 (HALL.out _ (HBG.out x)).2.2.2).mono fun e W h => ⟨h.1, HG2.out _ W h.2⟩
  have HX2 : Hid (∀ x, Calls Tryz.prog 11 #[.agg #[v0, v1, v2, v3, .int .i64 c, v5, .slice ad l0.length cap, v7, .int .i64 o, .int .i64 m, v10], .int .i64 (y + k)] (G x) fun e w' => e = .returned (.int .i64 B) ∧ ∃ y, w' = G y) := fun x => (HL2.out _ (HALL.out _ (HBG.out x)).2.2.1 (HALL.out _ (HBG.out x)).2.2.2).mono fun e W h => ⟨h.1, HG2.out _ W h.2⟩
  have n1 : ¬ A < 0 := by omega
  have n2 : ¬ B < A := by omega
  have n3 : ¬ A + k < B := by omega
  have n4 : ¬ 2147483648 < B := by omega
  go_enter Tryz.func6, Tryz.ntmps6
  go_wp2_with fail
  try rw [hx0]
  refine (HRy.out _).mono ?_
  rintro e w1 ⟨rfl, rfl⟩
  go_wp2_with fail
  refine (HRk.out _).mono ?_
  rintro e w1 ⟨rfl, rfl⟩
  go_upto_region 2 with fail
  refine region_in G (by kernel_rfl) (by kernel_rfl) (HG3.out _) ?_
  repeat (go_big_quiet_step (first
    | (go_at_call 11; with_reducible first | exact HX1.out _ | exact HX2.out _)))
  refine wpQuiet_nil ?_
  rintro _ ⟨x1, rfl⟩
  clear hc0 hc1 hc2 hc3 hc4 hc5 hc6 hc7 hc8 hc9 hc10
  go_wp2_with fail
  refine (anch_any D hD _ (HALL.out _ (HBG.out x1)).2.2.2).mono ?_
  rintro e w2 ⟨rfl, hb2⟩
  have HB2 : Hid (Below (w.alloc (.cells #[v0, v1, v2, v3, .int .i64 c, v5, .slice ad l0.length cap, v7, .int .i64 o, .int .i64 m, v10] 28)).heap.size (w.alloc (.cells #[v0, v1, v2, v3, .int .i64 c, v5, .slice ad l0.length cap, v7, .int .i64 o, .int .i64 m, v10] 28)) w2) := (HBG.out x1).trans (hb2.mono (HBG.out x1).size)
  obtain ⟨⟨c0, c1, c2, c3, c4, c5, c6, c7, c8, c9, c10⟩, hBw, _, _⟩ := HALL.out _ HB2.out
  clear hb2
  by_cases h1 : y < min (max m 0) 253402300799
  · go_wp2_with fail
    go_ret
    exact ⟨by first | rfl | simp, hBw⟩
  · by_cases h2 : 253402300799 < y + k
    · go_wp2_with fail
      go_ret
      exact ⟨by first | rfl | simp, hBw⟩
    · have h3 : B = min (A + k) 2147483648 := by
        rcases g3 with h | h | h
        · exact absurd h h1
        · exact absurd h h2
        · exact h
      have HZ : Hid ((B == min (A + k) 2147483648) = true) := by show _ = _; rw [h3]; simp
      clear h3 g3
      go_wp2_with fail
      go_ret
      exact ⟨ret_bool (by first | exact HZ.out | (rw [HZ.out]; rfl) | simp [HZ.out]), hBw⟩
end Go.Proofs.YtigbjhkkbgdkcabGreatDoor
