/-
  What ControlSeconds of the document's answers says; lists and texts are no longer than Go allows.
-/
import Derived.Test.YtoccjnbodoiibaaSpecKn
import Derived.Test.YtoccjnbodoiibaaSpecAl
import Derived.Test.YtoccjnbodoiibaaSpecD3
import Derived.Test.YtoccjnbodoiibaaWRAll
namespace Go.Proofs.Ytoccjnbodoiibaa
open Go.RowKit

/-- What directive of the document's answers says. -/
def DirIs (ts : List (List UInt8 × Bool × List UInt8)) (s : List UInt8) (e : Ending) : Prop :=
  ∃ (n a : ByteArray) (f r : Bool), e = .returned (.tuple #[.agg #[.string n, .bool f, .string a], .bool r]) ∧ secK ts s = (numK a.data.toList, r) ∧ a.size ≤ maxLen
theorem numK_nil : numK [] = 0 := rfl
set_option maxHeartbeats 2000000 in
set_option maxRecDepth 100000 in
theorem rdir_at (v : Value) (s : ByteArray) (ts : List (List UInt8 × Bool × List UInt8)) (w : World) (hf : Dl w v ts) (hm : MostD maxLen ts) :
    Calls Try.prog 11 #[v, .string s] w fun e w' => DirIs ts s.data.toList e ∧ Below w.heap.size w w' := by
  obtain ⟨ad, cap, hv, hcap, hcm, hc⟩ := hf
  subst hv
  have HC : Hid (0 < ts.length → ∃ g off, ad = some ⟨g, off, none⟩ ∧ g < w.heap.size ∧
    ∀ (k : Nat) (h : k < ts.length), w.cell? ⟨g, off + k * 3, none⟩ = some (.string ⟨(ts[k]).1.toArray⟩) ∧ w.cell? ⟨g, off + k * 3 + 1, none⟩ = some (.bool (ts[k]).2.1) ∧ w.cell? ⟨g, off + k * 3 + 2, none⟩ = some (.string ⟨(ts[k]).2.2.toArray⟩)) := hc
  have HM : Hid (MostD maxLen ts) := hm
  have HNEW : Hid (∀ W : World, Below (w.alloc (.cells #[.string ⟨#[]⟩, .bool false, .string ⟨#[]⟩] 28)).heap.size (w.alloc (.cells #[.string ⟨#[]⟩, .bool false, .string ⟨#[]⟩] 28)) W →
    W.cell? ⟨w.heap.size, 0, none⟩ = some (.string ⟨#[]⟩) ∧ W.cell? ⟨w.heap.size, 1, none⟩ = some (.bool false) ∧ W.cell? ⟨w.heap.size, 2, none⟩ = some (.string ⟨#[]⟩) ∧ (∀ o, W.frozen? ⟨w.heap.size, o, none⟩ = false) ∧ w.heap.size < W.heap.size ∧ Below w.heap.size w W) := fun W h => three_cells h
  unfold maxLen at hcm
  clear hc hm
  go_enter Try.func11, Try.ntmps11
  go_wp2_with fail
  go_loopw [10] (fun i wr => ∃ k : Nat, k ≤ ts.length ∧ i = .int .i64 k ∧ Hid ((ts.take k).any (isNm s.data.toList) = false) ∧ Below (w.alloc (.cells #[.string ⟨#[]⟩, .bool false, .string ⟨#[]⟩] 28)).heap.size (w.alloc (.cells #[.string ⟨#[]⟩, .bool false, .string ⟨#[]⟩] 28)) wr) (fun i _ => ts.length - (intOf i).toNat)
  case atStart => exact ⟨0, Nat.zero_le _, rfl, rfl, Below.refl _ _⟩
  case round =>
    obtain ⟨k, hk, rfl, HNO, hw⟩ := hrel
    obtain ⟨hf0, hf1, hf2, hfz, hgs0, hbel⟩ := HNEW.out wr hw
    have hz0 := hfz 0
    have hz1 := hfz 1
    have hz2 := hfz 2
    have hszw := hw.size
    clear hfz
    by_cases hlt : k < ts.length
    · obtain ⟨g, off, rfl, hgs, hce⟩ := HC.out (by omega)
      obtain ⟨c1, c2, c3⟩ := hce k hlt
      obtain ⟨n, hn⟩ : ∃ n : ByteArray, n = ⟨(ts[k]).1.toArray⟩ := ⟨_, rfl⟩
      obtain ⟨b, hb⟩ : ∃ b : Bool, b = (ts[k]).2.1 := ⟨_, rfl⟩
      obtain ⟨u, hu⟩ : ∃ u : ByteArray, u = ⟨(ts[k]).2.2.toArray⟩ := ⟨_, rfl⟩
      have HE : Hid ((n.data.toList, b, u.data.toList) = ts[k]) := by show _ = _; rw [hn, hb, hu]
      have hus : u.size ≤ maxLen := by rw [← size_list, hu]; exact (HM.out _ (List.getElem_mem hlt)).2
      have HUS : Hid (u.size ≤ maxLen) := hus
      rw [← hn] at c1; rw [← hb] at c2; rw [← hu] at c3
      have d1 : wr.cell? ⟨g, off + k * 3, none⟩ = some (.string n) := (hbel.cell (p := ⟨g, off + k * 3, none⟩) hgs).trans c1
      have d2 : wr.cell? ⟨g, off + k * 3 + 1, none⟩ = some (.bool b) := (hbel.cell (p := ⟨g, off + k * 3 + 1, none⟩) hgs).trans c2
      have d3 : wr.cell? ⟨g, off + k * 3 + 2, none⟩ = some (.string u) := (hbel.cell (p := ⟨g, off + k * 3 + 2, none⟩) hgs).trans c3
      have hgr : g < wr.heap.size := by omega
      clear hce c1 c2 c3 hn hb hu hus
      have hki : (k : Int) < (ts.length : Int) := by omega
      have hk0 : (0 : Int) ≤ (k : Int) := by omega
      have hq : (n.toList == s.toList) = isNm s.data.toList ts[k] := by rw [← HE.out]; unfold isNm; rw [ByteArray.toList_eq, ByteArray.toList_eq]
      have HW : Hid (Below (w.alloc (.cells #[.string ⟨#[]⟩, .bool false, .string ⟨#[]⟩] 28)).heap.size (w.alloc (.cells #[.string ⟨#[]⟩, .bool false, .string ⟨#[]⟩] 28)) wr) := hw
      clear hw
      cases hp : isNm s.data.toList ts[k]
      · rw [hp] at hq
        have HNX : Hid ((ts.take (k + 1)).any (isNm s.data.toList) = false) := any_snoc ts _ k hlt HNO.out hp
        clear hp
        go_wp2_with fail
        go_roundw
        case rel => exact ⟨k + 1, by omega, by go_num, HNX, HW.out.alloc HW.out.size _⟩
        case measure => simp [intOf]; omega
      · rw [hp] at hq
        have HS : Hid (secK ts s.data.toList = (numK u.data.toList, true)) := by show _ = _; rw [secK_at _ _ k hlt HNO.out hp, ← HE.out]
        clear hp
        go_wp2_with fail
        obtain ⟨c0, c1, c2⟩ := three_set (.string n) (.bool b) (.string u) hf0 hf1 hf2
        obtain ⟨w4, hw4⟩ : ∃ w4, w4 = ((wr.setCell ⟨w.heap.size, 0, none⟩ (.string n)).setCell ⟨w.heap.size, 1, none⟩ (.bool b)).setCell ⟨w.heap.size, 2, none⟩ (.string u) := ⟨_, rfl⟩
        have hb4 : Below w.heap.size w w4 := by rw [hw4]; exact ((hbel.setCell (p := ⟨w.heap.size, 0, none⟩) (Nat.le_refl _) _).setCell (p := ⟨w.heap.size, 1, none⟩) (Nat.le_refl _) _).setCell (p := ⟨w.heap.size, 2, none⟩) (Nat.le_refl _) _
        rw [← hw4] at c0 c1 c2 ⊢
        clear hw4
        have e0 := (World.cell?_alloc_lt w4 (.cells #[.string n, .bool b, .string u] 28) _ (cell_in c0)).trans c0
        have e1 := (World.cell?_alloc_lt w4 (.cells #[.string n, .bool b, .string u] 28) _ (cell_in c1)).trans c1
        have e2 := (World.cell?_alloc_lt w4 (.cells #[.string n, .bool b, .string u] 28) _ (cell_in c2)).trans c2
        refine bodyPost_ret (by simp [results, Try.results11, go_sem, e0, e1, e2]; try rfl) rfl ?_
        refine ⟨?_, hb4.alloc hb4.size _⟩
        exact ⟨n, u, b, true, rfl, HS.out, HUS.out⟩
    · have HS : Hid (secK ts s.data.toList = (numK (⟨#[]⟩ : ByteArray).data.toList, false)) := by
        have h := HNO.out
        rw [List.take_of_length_le (by omega)] at h
        show _ = _
        rw [secK_no _ _ h]; rfl
      go_wp2_with fail
      obtain ⟨c0, c1, c2⟩ := three_set (.string ⟨#[]⟩) (.bool false) (.string ⟨#[]⟩) hf0 hf1 hf2
      obtain ⟨w4, hw4⟩ : ∃ w4, w4 = ((wr.setCell ⟨w.heap.size, 0, none⟩ (.string ⟨#[]⟩)).setCell ⟨w.heap.size, 1, none⟩ (.bool false)).setCell ⟨w.heap.size, 2, none⟩ (.string ⟨#[]⟩) := ⟨_, rfl⟩
      have hb4 : Below w.heap.size w w4 := by rw [hw4]; exact ((hbel.setCell (p := ⟨w.heap.size, 0, none⟩) (Nat.le_refl _) _).setCell (p := ⟨w.heap.size, 1, none⟩) (Nat.le_refl _) _).setCell (p := ⟨w.heap.size, 2, none⟩) (Nat.le_refl _) _
      rw [← hw4] at c0 c1 c2 ⊢
      clear hw4
      refine bodyPost_ret (by simp [results, Try.results11, go_sem, c0, c1, c2]; try rfl) rfl ?_
      refine ⟨?_, hb4⟩
      exact ⟨⟨#[]⟩, ⟨#[]⟩, false, false, rfl, HS.out, Nat.zero_le _⟩
set_option maxHeartbeats 2000000 in
set_option maxRecDepth 100000 in
theorem rsecs_at (s : ByteArray) (w : World) (hs : s.size ≤ maxLen) :
    Calls Try.prog 12 #[.string s] w fun e w' => e = .returned (.int .i64 (numK s.data.toList)) ∧ w' = w := by
  have HS : Hid (s.size ≤ maxLen) := hs
  unfold maxLen at hs
  have HAL : Hid (allIn (⟨#[48, 49, 50, 51, 52, 53, 54, 55, 56, 57]⟩ : ByteArray).data.toList s.data.toList = s.data.toList.all isDig) := tens_all _
  cases hall : s.data.toList.all isDig
  · have HNK : Hid (numK s.data.toList = 0) := numK_no _ hall
    rw [hall] at HAL
    clear hall
    go_enter Try.func12, Try.ntmps12
    go_wp2_with fail
    refine (allOf_any s _ _ HS.out).mono ?_
    rintro e w1 ⟨rfl, rfl⟩
    rw [HAL.out]
    go_wp2_with fail
    go_ret
    exact ⟨by rw [HNK.out]; rfl, rfl⟩
  · have HNK : Hid (numK s.data.toList = runK s.data.toList) := numK_yes _ hall
    have HALL : Hid (s.data.toList.all isDig = true) := hall
    rw [hall] at HAL
    clear hall
    go_enter Try.func12, Try.ntmps12
    go_wp2_with fail
    refine (allOf_any s _ _ HS.out).mono ?_
    rintro e w1 ⟨rfl, rfl⟩
    rw [HAL.out]
    go_wp2_with fail
    go_loopw [3, 10] (fun nv i wr => ∃ (k : Nat) (n : Int), k ≤ s.size ∧ i = .int .i64 k ∧ nv = .int .i64 n ∧ Hid (n = runK (s.data.toList.take k)) ∧ wr = w1) (fun _ i _ => s.size - (intOf i).toNat)
    case atStart => exact ⟨0, 0, Nat.zero_le _, rfl, rfl, rfl, rfl⟩
    case round =>
      obtain ⟨k, n, hk, rfl, rfl, HN, rfl⟩ := hrel
      have hnb := runK_in (s.data.toList.take k) (by
        rw [List.all_eq_true]
        intro x hx
        exact List.all_eq_true.1 HALL.out x (List.mem_of_mem_take hx))
      rw [← HN.out] at hnb
      obtain ⟨hn0, hn1⟩ := hnb
      by_cases hlt : k < s.size
      · have hki : (k : Int) < (s.size : Int) := by omega
        have hk0 : (0 : Int) ≤ (k : Int) := by omega
        have htk : s.data.toList.take (k + 1) = s.data.toList.take k ++ [s[k]] := take_snoc s k hlt
        have hcl := s[k].toNat_lt
        obtain ⟨c, hc⟩ : ∃ c, s[k] = c := ⟨_, rfl⟩
        have hget : ∀ h, s[k]'h = c := fun _ => hc
        have hdg : isDig c = true := by
          rw [← hc]
          exact List.all_eq_true.1 HALL.out _ (List.getElem_mem (l := s.data.toList) (by rw [size_list]; exact hlt))
        have hd := (dig_iff c).1 hdg
        have HT : Hid (runK (s.data.toList.take (k + 1)) = min (n * 10 + ((c.toNat : Int) - 48)) 2147483648) := by
          show _ = _
          rw [htk, hc, runK_snoc, ← HN.out]; rfl
        have h1 : (48 : Int) ≤ (c.toNat : Int) := by omega
        have h2 : (c.toNat : Int) ≤ 57 := by omega
        clear htk hdg hd
        rw [hc] at hcl
        by_cases hbig : (2147483648 : Int) < 10 * n + ((c.toNat : Int) - 48)
        · have HT2 : Hid ((2147483648 : Int) = runK (s.data.toList.take (k + 1))) := by show _ = _; rw [HT.out]; omega
          go_wp2_with fail
          go_roundw
          case rel => exact ⟨k + 1, _, by omega, by go_num, rfl, HT2, trivial⟩
          case measure => simp [intOf]; omega
        · have HT2 : Hid (10 * n + ((c.toNat : Int) - 48) = runK (s.data.toList.take (k + 1))) := by show _ = _; rw [HT.out]; omega
          go_wp2_with fail
          go_roundw
          case rel => exact ⟨k + 1, _, by omega, by go_num, rfl, HT2, trivial⟩
          case measure => simp [intOf]; omega
      · have HK : Hid (numK s.data.toList = n) := by
          have h1 := HN.out
          rw [List.take_of_length_le (by rw [size_list]; omega)] at h1
          show _ = _
          rw [HNK.out, h1]
        go_wp2_with fail
        go_ret
        exact ⟨by rw [HK.out]; try rfl, rfl⟩
set_option maxHeartbeats 1000000 in
set_option maxRecDepth 100000 in
theorem rksec_at (v : Value) (s : ByteArray) (ts : List (List UInt8 × Bool × List UInt8)) (n : Int) (b : Bool) (h : secK ts s.data.toList = (n, b)) (w : World) (hf : Dl w v ts) (hm : MostD maxLen ts) :
    Calls Try.prog 6 #[v, .string s] w fun e w' => e = .returned (.tuple #[.int .i64 n, .bool b]) ∧ Below w.heap.size w w' := by
  have HF : Hid (Dl w v ts) := hf
  have HR : Hid (secK ts s.data.toList = (n, b)) := h
  have HM : Hid (MostD maxLen ts) := hm
  clear hf h hm
  go_enter Try.func6, Try.ntmps6
  go_wp2_with fail
  refine (rdir_at v s ts _ HF.out HM.out).mono ?_
  rintro e w2 ⟨hx, hb2⟩
  obtain ⟨x, a, f, r, rfl, hs, has⟩ := hx
  rw [HR.out] at hs
  obtain ⟨rfl, rfl⟩ := Prod.mk.inj hs
  have HAS : Hid (a.size ≤ maxLen) := has
  clear hs has
  go_wp2_with fail
  refine (rsecs_at a _ HAS.out).mono ?_
  rintro e w3 ⟨rfl, rfl⟩
  go_wp2_with fail
  go_ret2
  exact ⟨rfl, hb2.alloc hb2.size _⟩
end Go.Proofs.Ytoccjnbodoiibaa
