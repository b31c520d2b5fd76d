/-
  What readParams of package token computes; the texts have at most 1000 bytes each, and the package variable that the library reads holds some number.
-/
import Derived.Test.YtoccjnbodoiibabDoorWParam2
import Derived.Test.YtoccjnbodoiibabDoorOwn
namespace Go.Proofs.YtoccjnbodoiibabDoor
open Go.RowKit

theorem infoP : (Tryd.prog.info? 28).map (fun i => (i.zero, i.size, i.bytes)) = some (some (.agg #[.string ⟨#[]⟩, .string ⟨#[]⟩]), 2, 32) := by kernel_rfl
theorem two_cell (w : World) (u v : Value) (t : TypeId) : ∀ (j : Nat) x, [u, v][j]? = some x → (w.alloc (.cells #[u, v] t)).cell? ((⟨w.heap.size, 0, none⟩ : Addr).add j) = some x := by
  intro j x h
  match j, h with
  | 0, h => simp at h; subst h; simp [Addr.add]
  | 1, h => simp at h; subst h; simp [Addr.add]
theorem own_below3 {w w1 : World} {B : Nat} {e : TypeId} {size : Nat} {v : Value} {n : Nat} {xs : List Value} (h : w.ownsRow B e size v n xs) (hb : Below w.heap.size w w1) : w1.ownsRow B e size v n xs := by
  refine ⟨h.1, ?_⟩
  rcases h.2 with h0 | ⟨g, cap, cur, hv, hB, hg, h3⟩
  · exact .inl h0
  · exact .inr ⟨g, cap, cur, hv, hB, (hb.block g (Array.getElem?_eq_some_iff.1 hg).1).trans hg, h3⟩

/-- A slice of strings that can be read. -/
def Reads (w : World) (ad : Option Addr) (P : List (List UInt8)) : Prop := 0 < P.length → ∃ g off, ad = some ⟨g, off, none⟩ ∧ g < w.heap.size ∧ ∀ j, j < P.length → w.cell? ⟨g, off + j, none⟩ = (strs P)[j]?

theorem rps_take (P : List (List UInt8)) (k : Nat) (h : k < P.length) : rps ((P.map trimL).take (k + 1)) = rpstep (rps ((P.map trimL).take k)) (trimL P[k]) := by
  rw [List.take_succ_eq_append_getElem (by simpa using h), rps_snoc]
  simp

set_option maxHeartbeats 4000000 in
set_option maxRecDepth 100000 in
theorem readParams_any (ad : Option Addr) (cap : Nat) (P : List (List UInt8)) (m : Int) (w : World) (hm : w.cell? ⟨0, 0, none⟩ = some (.int .i64 m)) (hr : Reads w ad P) (hl : P.length ≤ 1001) (hp : ∀ p ∈ P, p.length ≤ 1000) :
    Calls Tryd.prog 14 #[.slice ad P.length cap] w fun e w' => (∃ v ps, e = .returned (.tuple #[v, .bool true]) ∧ rps (P.map trimL) = some ps ∧ w'.ownsRow w.heap.size 28 2 v ps.length (pars ps) ∧ Below w.heap.size w w') ∨
      (e = .returned (.tuple #[.slice none 0 0, .bool false]) ∧ rps (P.map trimL) = none ∧ Below w.heap.size w w') := by
  obtain ⟨i0, hi, hz0, hz1, hz2⟩ := info_parts infoP
  have HR : Hid (Reads w ad P) := hr
  have HM : Hid (w.cell? ⟨0, 0, none⟩ = some (.int .i64 m)) := hm
  have HP : Hid (∀ p ∈ P, p.length ≤ 1000) := hp

  clear hr hm hp
  go_enter Tryd.func14, Tryd.ntmps14
  go_wp2_with fail
  go_loopw [4, 12] (fun v i wr => ∃ (k : Nat) (ps : List Par), k ≤ P.length ∧ i = .int .i64 k ∧ rps ((P.map trimL).take k) = some ps ∧ wr.ownsRow w.heap.size 28 2 v ps.length (pars ps) ∧ Below w.heap.size w wr) (fun _ i _ => P.length - (intOf i).toNat)
  case atStart => exact ⟨0, [], by omega, rfl, rfl, World.ownsRow_nil _ _ _ _, Below.refl _ _⟩
  case round =>
    obtain ⟨k, ps, hk, rfl, hrp, hown, hw⟩ := hrel
    have hsz := hw.size
    have hpl : ps.length ≤ 1001 := by
      have h1 := rps_len _ _ hrp
      have h2 := List.length_take_le k (P.map trimL)
      omega
    have HRP : Hid (rps ((P.map trimL).take k) = some ps) := hrp
    clear hrp
    by_cases hlt : k < P.length
    · obtain ⟨g, off, rfl, hgs, hce⟩ := HR.out (by omega)
      have hcell : wr.cell? ⟨g, off + k, none⟩ = some (.string ⟨(P[k]).toArray⟩) := by
        rw [hw.cell (p := ⟨g, off + k, none⟩) hgs, hce k hlt]
        exact strs_get P k hlt
      obtain ⟨u, hu⟩ : ∃ u : ByteArray, u = ⟨(P[k]).toArray⟩ := ⟨_, rfl⟩
      rw [← hu] at hcell
      have hus : u.size ≤ 1000 := by
        rw [hu, ← size_list]
        exact HP.out P[k] (List.getElem_mem hlt)
      obtain ⟨u', hu'⟩ : ∃ u' : ByteArray, u' = ⟨(trimL P[k]).toArray⟩ := ⟨_, rfl⟩
      have HU : Hid (u'.data.toList = trimL u.data.toList) := by show _ = _; rw [hu, hu']
      have HU' : Hid (u'.data.toList = trimL P[k]) := by show _ = _; rw [hu']
      have hus' : u'.size ≤ 1000 := by
        rw [← size_list, HU.out]
        have := trimL_len u.data.toList
        rw [size_list] at this
        omega
      have HST : Hid (rps ((P.map trimL).take (k + 1)) = rpstep (some ps) u'.data.toList) := by
        show _ = _; rw [rps_take P k hlt, HRP.out, HU'.out]
      clear hce hu hu'
      cases hem : u'.toList.isEmpty
      · have HEM : Hid (u'.data.toList.isEmpty = false) := by show _ = _; rw [ByteArray.toList_eq] at hem; exact hem
        cases hrp : rp u'.data.toList with
        | none =>
          have HN : Hid (rp u'.data.toList = none) := hrp
          have HD : Hid (rps (P.map trimL) = none) := by
            have hk' : k < (P.map trimL).length := by simpa using hlt
            refine rps_dead (P.map trimL) k hk' _ HRP.out ?_
            rw [List.getElem_map, ← HU'.out]
            exact rpstep_bad _ _ HEM.out HN.out
          clear hrp
          go_wp2_with fail
          refine (trim_at _ u' HU.out _ (by omega)).mono ?_
          rintro e w2 ⟨rfl, hb2⟩
          have hw2 := hw.trans (hb2.mono hw.size)
          have HM2 : Hid (w2.cell? ⟨0, 0, none⟩ = some (.int .i64 m)) := cell_keep hw2 HM.out
          clear hown hw hb2 hcell
          go_wp2_with fail
          refine (readParam_no _ HN.out m _ HM2.out hus').mono ?_
          rintro e w3 ⟨rfl, hb3⟩
          have hw3 := hw2.trans (hb3.mono hw2.size)
          have hsz3 := hw3.size
          clear hw2 hb3
          go_wp2_with fail
          go_ret2
          exact .inr ⟨rfl, HD.out, ((hw3.alloc hsz3 _))⟩
        | some x =>
          obtain ⟨x1, hx1⟩ : ∃ x1 : ByteArray, x1 = ⟨x.1.toArray⟩ := ⟨_, rfl⟩
          obtain ⟨x2, hx2⟩ : ∃ x2 : ByteArray, x2 = ⟨x.2.toArray⟩ := ⟨_, rfl⟩
          have HX1 : Hid (x1 = ⟨x.1.toArray⟩) := hx1
          have HX2 : Hid (x2 = ⟨x.2.toArray⟩) := hx2
          have HN : Hid (rp u'.data.toList = some (x1.data.toList, x2.data.toList)) := by show _ = _; rw [hrp, hx1, hx2]
          have HK : Hid (rps ((P.map trimL).take (k + 1)) = some (ps ++ [x])) := by show _ = _; rw [HST.out]; exact rpstep_ok _ _ x HEM.out hrp
          clear hrp hx1 hx2
          go_wp2_with fail
          refine (trim_at _ u' HU.out _ (by omega)).mono ?_
          rintro e w2 ⟨rfl, hb2⟩
          have hown2 := own_below3 hown hb2
          have hw2 := hw.trans (hb2.mono hw.size)
          have HM2 : Hid (w2.cell? ⟨0, 0, none⟩ = some (.int .i64 m)) := cell_keep hw2 HM.out
          clear hown hw hb2 hcell
          go_wp2_with fail
          refine (readParam_yes _ x1 x2 HN.out m _ HM2.out hus').mono ?_
          rintro e w3 ⟨rfl, hb3⟩
          have hown3 := own_below3 hown2 hb3
          have hw3 := hw2.trans (hb3.mono hw2.size)
          have hsz3 := hw3.size
          clear hw2 hb3 hown2
          go_wp2_with (at_builtin; refine wpList_append_own _ rfl _ _ 22 rfl w.heap.size 28 i0 (.agg #[.string ⟨#[]⟩, .string ⟨#[]⟩]) 2 32 Tryd.underlying22 hi hz0 hz1 hz2 rfl (by decide) _ _ _ rfl ((hown3.alloc _).alloc _) ⟨w3.heap.size + 1, 0, none⟩ 1 1 [.string x1, .string x2] rfl rfl ?c1 ?c2 ?c3 ?c4 ?c5 ?_)
          case c1 =>
            intro j x h
            match j, h with
            | 0, h => simp at h; subst h; simp [Addr.add]
            | 1, h => simp at h; subst h; simp [Addr.add]
          case c2 => intro x hx; simp at hx; rcases hx with rfl | rfl <;> rfl
          case c3 => unfold maxLen; omega
          case c4 => omega
          case c5 => simp; omega
          · intro v' w4 hown' hgrow _
            have hB : Below w.heap.size w w4 := ((hw3.alloc (by omega) _).alloc (by simp; omega) _).grown hgrow (by simp; omega) (fun b hb => (((hown3.alloc (.cells #[.string x1, .string x2] 28)).alloc (.cells #[.string x1, .string x2] 28)).lt b hb).1)
            have hown4 : w4.ownsRow w.heap.size 28 2 v' (ps ++ [x]).length (pars (ps ++ [x])) := by
              rw [← pars_snoc, List.length_append, ← HX1.out, ← HX2.out]; exact hown'
            clear hown' hgrow hown3 hw3
            go_wp2_with fail
            go_roundw
            case rel => exact ⟨k + 1, ps ++ [x], by omega, by go_num, HK.out, hown4, hB⟩
            case measure => simp [intOf]; omega
      · have HEM : Hid (u'.data.toList.isEmpty = true) := by show _ = _; rw [ByteArray.toList_eq] at hem; exact hem
        go_wp2_with fail
        refine (trim_at _ u' HU.out _ (by omega)).mono ?_
        rintro e w2 ⟨rfl, hb2⟩
        have hown2 := own_below3 hown hb2
        have hw2 := hw.trans (hb2.mono hw.size)
        clear hown hw hb2 hcell
        go_wp2_with fail
        go_roundw
        case rel => exact ⟨k + 1, ps, by omega, by go_num, by rw [HST.out]; exact rpstep_skip _ _ HEM.out, hown2, hw2⟩
        case measure => simp [intOf]; omega
    · have HE : Hid (rps (P.map trimL) = some ps) := by
        show _ = _
        rw [← HRP.out, List.take_of_length_le (by simp; omega)]
      go_wp2_with fail
      go_ret2
      exact .inl ⟨_, ps, rfl, HE.out, hown, hw⟩
end Go.Proofs.YtoccjnbodoiibabDoor
