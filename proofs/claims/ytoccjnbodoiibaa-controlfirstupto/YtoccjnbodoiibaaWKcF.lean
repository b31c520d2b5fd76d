/-
  What find, Has and Seconds of package control answer; lists and texts are no longer than Go allows.
-/
import Derived.Test.YtoccjnbodoiibaaSpecKn
import Derived.Test.YtoccjnbodoiibaaSpecDl
import Derived.Test.YtoccjnbodoiibaaShelf
import Derived.Test.YtoccjnbodoiibaaRows
import Derived.Handy
namespace Go.Proofs.Ytoccjnbodoiibaa
open Go.RowKit

/-- A function value that answers p of each directive, in whatever later world, and turns nothing. -/
def PredD (w : World) (f : Value) (p : List UInt8 × Bool × List UInt8 → Bool) : Prop :=
  ∃ (g : Nat) (lb : Array Value), f = .func (.func g) #[] lb ∧ (∀ args w, (callFunc g args).run Try.prog w = .ok (.enter g args) w) ∧
    ∀ (W : World) (k : Bool) (n x : ByteArray), Below w.heap.size w W → Calls Try.prog g (#[.agg #[.string n, .bool k, .string x]] ++ lb) W fun e w' => e = .returned (.bool (p (n.data.toList, k, x.data.toList))) ∧ Below W.heap.size W w'

set_option maxHeartbeats 2000000 in
set_option maxRecDepth 100000 in
theorem didx_any (v f : Value) (ts : List (List UInt8 × Bool × List UInt8)) (p : List UInt8 × Bool × List UInt8 → Bool) (w : World) (hf : Dl w v ts) (hp : PredD w f p) :
    Calls Try.prog 13 #[v, f] w fun e w' => ((e = .returned (.int .i64 (-1)) ∧ ts.any p = false) ∨ ∃ (k : Nat) (h : k < ts.length), e = .returned (.int .i64 (k : Int)) ∧ (ts.take k).any p = false ∧ p ts[k] = true) ∧ Below w.heap.size w w' := by
  obtain ⟨ad, cap, hv, hcap, hcm, hc⟩ := hf
  obtain ⟨g0, lb, hfv, eg, hpc⟩ := hp
  subst hv hfv
  have HC : Hid (0 < ts.length → ∃ g off, ad = some ⟨g, off, none⟩ ∧ g < w.heap.size ∧
    ∀ (k : Nat) (h : k < ts.length), w.cell? ⟨g, off + k * 3, none⟩ = some (.string ⟨(ts[k]).1.toArray⟩) ∧ w.cell? ⟨g, off + k * 3 + 1, none⟩ = some (.bool (ts[k]).2.1) ∧ w.cell? ⟨g, off + k * 3 + 2, none⟩ = some (.string ⟨(ts[k]).2.2.toArray⟩)) := hc
  have HPC : Hid (∀ (W : World) (k : Bool) (n x : ByteArray), Below w.heap.size w W → Calls Try.prog g0 (#[.agg #[.string n, .bool k, .string x]] ++ lb) W fun e w' => e = .returned (.bool (p (n.data.toList, k, x.data.toList))) ∧ Below W.heap.size W w') := hpc
  clear hc hpc
  unfold maxLen at hcm
  go_enter Try.func13, Try.ntmps13
  go_wp2_with fail
  go_loopw [8] (fun i wr => ∃ k : Nat, k ≤ ts.length ∧ i = .int .i64 k ∧ (ts.take k).any p = false ∧ Below w.heap.size w wr) (fun i _ => ts.length - (intOf i).toNat)
  case atStart => exact ⟨0, Nat.zero_le _, rfl, rfl, Below.refl _ _⟩
  case round =>
    obtain ⟨k, hk, rfl, hno, hw⟩ := hrel
    have hsz := hw.size
    have HNO : Hid ((ts.take k).any p = false) := hno
    clear hno
    by_cases hlt : k < ts.length
    · obtain ⟨g, off, rfl, hgs, hce⟩ := HC.out (by omega)
      obtain ⟨c1, c2, c3⟩ := hce k hlt
      obtain ⟨n, hn⟩ : ∃ n : ByteArray, n = ⟨(ts[k]).1.toArray⟩ := ⟨_, rfl⟩
      obtain ⟨b, hb⟩ : ∃ b : Bool, b = (ts[k]).2.1 := ⟨_, rfl⟩
      obtain ⟨u, hu⟩ : ∃ u : ByteArray, u = ⟨(ts[k]).2.2.toArray⟩ := ⟨_, rfl⟩
      have HE : Hid ((n.data.toList, b, u.data.toList) = ts[k]) := by show _ = _; rw [hn, hb, hu]
      rw [← hn] at c1; rw [← hb] at c2; rw [← hu] at c3
      have d1 : wr.cell? ⟨g, off + k * 3, none⟩ = some (.string n) := (hw.cell (p := ⟨g, off + k * 3, none⟩) hgs).trans c1
      have d2 : wr.cell? ⟨g, off + k * 3 + 1, none⟩ = some (.bool b) := (hw.cell (p := ⟨g, off + k * 3 + 1, none⟩) hgs).trans c2
      have d3 : wr.cell? ⟨g, off + k * 3 + 2, none⟩ = some (.string u) := (hw.cell (p := ⟨g, off + k * 3 + 2, none⟩) hgs).trans c3
      have hgr : g < wr.heap.size := by omega
      clear hce c1 c2 c3 hn hb hu
      have hki : (k : Int) < (ts.length : Int) := by omega
      have hk0 : (0 : Int) ≤ (k : Int) := by omega
      cases hq : p (n.data.toList, b, u.data.toList)
      · have HQ : Hid (p (n.data.toList, b, u.data.toList) = false) := hq
        have HNX : Hid ((ts.take (k + 1)).any p = false) := any_snoc ts p k hlt HNO.out (by rw [← HE.out]; exact hq)
        clear hq
        go_wp2_with (go_at_fn g0; refine (HPC.out _ b n u hw).mono ?_; rintro e w2 ⟨rfl, hb2⟩; rw [HQ.out])
        go_roundw
        case rel => exact ⟨k + 1, by omega, by go_num, HNX.out, hw.trans (hb2.mono hw.size)⟩
        case measure => simp [intOf]; omega
      · have HQ : Hid (p (n.data.toList, b, u.data.toList) = true) := hq
        have HPK : Hid (p ts[k] = true) := by show _ = _; rw [← HE.out]; exact hq
        clear hq
        go_wp2_with (go_at_fn g0; refine (HPC.out _ b n u hw).mono ?_; rintro e w2 ⟨rfl, hb2⟩; rw [HQ.out])
        go_ret
        exact ⟨.inr ⟨k, hlt, rfl, HNO.out, HPK.out⟩, hw.trans (hb2.mono hw.size)⟩
    · have HRK : Hid (ts.any p = false) := by
        show _ = _
        have := HNO.out
        rwa [List.take_of_length_le (by omega)] at this
      go_wp2_with fail
      go_ret
      exact ⟨.inl ⟨rfl, HRK.out⟩, hw⟩
set_option maxRecDepth 100000 in
theorem find1_any (n u s : ByteArray) (b : Bool) (B : Nat) (w : World) (hc : w.cell? ⟨B, 0, none⟩ = some (.string s)) :
    Calls Try.prog 14 #[.agg #[.string n, .bool b, .string u], .pointer (some ⟨B, 0, none⟩)] w fun e w' => e = .returned (.bool (isNm s.data.toList (n.data.toList, b, u.data.toList))) ∧ Below w.heap.size w w' := by
  have HQ : Hid ((n.toList == s.toList) = isNm s.data.toList (n.data.toList, b, u.data.toList)) := by show _ = _; unfold isNm; rw [ByteArray.toList_eq, ByteArray.toList_eq]
  have hBs : B < w.heap.size := cell_in hc
  go_enter Try.func14, Try.ntmps14
  go_wp2_with fail
  go_ret
  exact ⟨ret_bool HQ.out, (Below.refl _ w).alloc (Nat.le_refl _) _⟩
set_option maxHeartbeats 1000000 in
set_option maxRecDepth 100000 in
theorem kfind_at (v : Value) (s : ByteArray) (ts : List (List UInt8 × Bool × List UInt8)) (w : World) (hf : Dl w v ts) :
    Calls Try.prog 9 #[v, .string s] w fun e w' => ((e = .returned (.int .i64 (-1)) ∧ ts.any (isNm s.data.toList) = false) ∨ ∃ (k : Nat) (h : k < ts.length), e = .returned (.int .i64 (k : Int)) ∧ (ts.take k).any (isNm s.data.toList) = false ∧ isNm s.data.toList ts[k] = true) ∧ Below w.heap.size w w' := by
  have hmf : ∀ (fn : Fn) (first cap : Array Value) (w : World), (Instr.makeFunc fn first cap).run Try.prog w = .ok (.func fn first cap) w := fun _ _ _ _ => rfl
  have hb0 : Below w.heap.size w (w.alloc (.cells #[.string s] 9)) := (Below.refl _ w).alloc (Nat.le_refl _) _
  have HF : Hid (Dl (w.alloc (.cells #[.string s] 9)) v ts) := hf.below hb0
  have HB0 : Hid (Below w.heap.size w (w.alloc (.cells #[.string s] 9))) := hb0
  have HPR : Hid (PredD (w.alloc (.cells #[.string s] 9)) (.func (.func 14) #[] #[.pointer (some ⟨w.heap.size, 0, none⟩)]) (isNm s.data.toList)) :=
    ⟨14, _, rfl, enters_of Try.func14 (by kernel_rfl) rfl, fun W b n u hW => find1_any n u s b w.heap.size W ((hW.cell (p := ⟨w.heap.size, 0, none⟩) (by simp)).trans (by simp))⟩
  clear hf hb0
  go_enter Try.func9, Try.ntmps9
  go_wp2_with fail
  refine (didx_any v _ ts (isNm s.data.toList) _ HF.out HPR.out).mono ?_
  rintro e w2 ⟨⟨rfl, hno⟩ | ⟨k, hk, rfl, h1, h2⟩, hb2⟩
  · have HNO : Hid (ts.any (isNm s.data.toList) = false) := hno
    clear hno
    go_wp2_with fail
    go_ret
    exact ⟨.inl ⟨rfl, HNO.out⟩, HB0.out.trans (hb2.mono HB0.out.size)⟩
  · have H1 : Hid ((ts.take k).any (isNm s.data.toList) = false) := h1
    have H2 : Hid (isNm s.data.toList ts[k] = true) := h2
    clear h1 h2
    go_wp2_with fail
    go_ret
    exact ⟨.inr ⟨k, hk, rfl, H1.out, H2.out⟩, HB0.out.trans (hb2.mono HB0.out.size)⟩
set_option maxRecDepth 100000 in
theorem khas_at (v : Value) (s : ByteArray) (ts : List (List UInt8 × Bool × List UInt8)) (r : Bool) (h : (secK ts s.data.toList).2 = r) (w : World) (hf : Dl w v ts) :
    Calls Try.prog 7 #[v, .string s] w fun e w' => e = .returned (.bool r) ∧ Below w.heap.size w w' := by
  have HF : Hid (Dl w v ts) := hf
  have HR : Hid (ts.any (isNm s.data.toList) = r) := by show _ = _; rw [← secK_any]; exact h
  clear hf h
  go_enter Try.func7, Try.ntmps7
  go_wp2_with fail
  refine (kfind_at v s ts _ HF.out).mono ?_
  rintro e w2 ⟨⟨rfl, hno⟩ | ⟨k, hk, rfl, h1, h2⟩, hb2⟩
  · rw [hno] at HR
    have HRR : Hid (false = r) := HR.out
    go_wp2_with fail
    go_ret
    exact ⟨ret_bool HRR.out, hb2⟩
  · have hany : ts.any (isNm s.data.toList) = true := by rw [List.any_eq_true]; exact ⟨_, List.getElem_mem hk, h2⟩
    rw [hany] at HR
    have HRR : Hid (true = r) := HR.out
    have hk0 : (0 : Int) ≤ (k : Int) := by omega
    clear h1 h2 hany
    go_wp2_with fail
    go_ret
    exact ⟨ret_bool HRR.out, hb2⟩
set_option maxHeartbeats 2000000 in
set_option maxRecDepth 100000 in
theorem knum_at (s : ByteArray) (w : World) (hs : s.size ≤ maxLen) :
    Calls Try.prog 10 #[.string s] w fun e w' => e = .returned (.int .i64 (numK s.data.toList)) ∧ w' = w := by
  unfold maxLen at hs
  go_enter Try.func10, Try.ntmps10
  go_wp2_with fail
  go_loopw [3, 8] (fun nv i wr => ∃ (k : Nat) (n : Int), k ≤ s.size ∧ i = .int .i64 k ∧ nv = .int .i64 n ∧ Hid (n = runK (s.data.toList.take k)) ∧ Hid ((s.data.toList.take k).all isDig = true) ∧ wr = w) (fun _ i _ => s.size - (intOf i).toNat)
  case atStart => exact ⟨0, 0, Nat.zero_le _, rfl, rfl, rfl, rfl, rfl⟩
  case round =>
    obtain ⟨k, n, hk, rfl, rfl, HN, HD, rfl⟩ := hrel
    have hnb := runK_in _ HD.out
    rw [← HN.out] at hnb
    obtain ⟨hn0, hn1⟩ := hnb
    by_cases hlt : k < s.size
    · have hki : (k : Int) < (s.size : Int) := by omega
      have hk0 : (0 : Int) ≤ (k : Int) := by omega
      have htk : s.data.toList.take (k + 1) = s.data.toList.take k ++ [s[k]] := take_snoc s k hlt
      have hcl := s[k].toNat_lt
      obtain ⟨c, hc⟩ : ∃ c, s[k] = c := ⟨_, rfl⟩
      have hget : ∀ h, s[k]'h = c := fun _ => hc
      by_cases hdg : isDig c = true
      · have hd := (dig_iff c).1 hdg
        have HT : Hid (runK (s.data.toList.take (k + 1)) = stepK n c ∧ (s.data.toList.take (k + 1)).all isDig = true) := by
          rw [htk, hc, runK_snoc, ← HN.out]
          exact ⟨rfl, by rw [List.all_append, HD.out, List.all_cons, hdg]; rfl⟩
        have h1 : (48 : Int) ≤ (c.toNat : Int) := by omega
        have h2 : (c.toNat : Int) ≤ 57 := by omega
        clear htk hdg hd
        rw [hc] at hcl
        go_wp2_with fail
        go_roundw
        case rel => exact ⟨k + 1, _, by omega, by go_num, rfl, by rw [HT.out.1]; rfl, HT.out.2, trivial⟩
        case measure => simp [intOf]; omega
      · have hno : isDig c = false := by simpa using hdg
        have HNK : Hid (numK s.data.toList = 0) := by
          refine numK_no _ ?_
          rw [List.all_eq_false]
          refine ⟨c, ?_, hdg⟩
          rw [← hc]
          exact List.getElem_mem (l := s.data.toList) (by rw [size_list]; exact hlt)
        have hout : (c.toNat : Int) < 48 ∨ (¬ (c.toNat : Int) < 48 ∧ (57 : Int) < (c.toNat : Int)) := by
          have h := mt (dig_iff c).2 hdg
          omega
        clear htk hdg hno
        rw [hc] at hcl
        rcases hout with h1 | ⟨h1, h2⟩
        · go_wp2_with fail
          go_ret
          exact ⟨by rw [HNK.out]; rfl, rfl⟩
        · go_wp2_with fail
          go_ret
          exact ⟨by rw [HNK.out]; rfl, rfl⟩
    · have HK : Hid (numK s.data.toList = n) := by
        have h1 := HN.out
        have h2 := HD.out
        rw [List.take_of_length_le (by rw [size_list]; omega)] at h1 h2
        show _ = _
        rw [numK_yes _ h2, h1]
      go_wp2_with fail
      go_ret
      exact ⟨by rw [HK.out]; try rfl, rfl⟩
set_option maxHeartbeats 1000000 in
set_option maxRecDepth 100000 in
theorem ksec_at (v : Value) (s : ByteArray) (ts : List (List UInt8 × Bool × List UInt8)) (n : Int) (b : Bool) (h : secK ts s.data.toList = (n, b)) (w : World) (hf : Dl w v ts) (hm : MostD maxLen ts) :
    Calls Try.prog 5 #[v, .string s] w fun e w' => e = .returned (.tuple #[.int .i64 n, .bool b]) ∧ Below w.heap.size w w' := by
  have HF : Hid (Dl w v ts) := hf
  have HR : Hid (secK ts s.data.toList = (n, b)) := h
  have HM : Hid (MostD maxLen ts) := hm
  obtain ⟨ad, cap, hv, hnc, hcm, hcx⟩ := id hf
  subst hv
  unfold maxLen at hcm
  clear hf h hm hcx
  go_enter Try.func5, Try.ntmps5
  go_wp2_with fail
  refine (kfind_at _ s ts _ HF.out).mono ?_
  rintro e w2 ⟨⟨rfl, hno⟩ | ⟨k, hk, rfl, h1, h2⟩, hb2⟩
  · have hz := HR.out
    rw [secK_no _ _ hno] at hz
    obtain ⟨rfl, rfl⟩ := Prod.mk.inj hz
    clear hno hz
    go_wp2_with fail
    go_ret2
    exact ⟨rfl, hb2⟩
  · have hz := HR.out
    rw [secK_at _ _ k hk h1 h2] at hz
    obtain ⟨hz1, rfl⟩ := Prod.mk.inj hz
    obtain ⟨ad', cap', hv', _, _, hc'⟩ := HF.out
    simp only [Value.slice.injEq] at hv'
    obtain ⟨rfl, _, rfl⟩ := hv'
    obtain ⟨g, off, rfl, hgs, hce⟩ := hc' (by omega)
    obtain ⟨_, _, c3⟩ := hce k hk
    obtain ⟨a, ha⟩ : ∃ a : ByteArray, a = ⟨(ts[k]).2.2.toArray⟩ := ⟨_, rfl⟩
    have HA : Hid (numK a.data.toList = n) := by show _ = _; rw [← hz1, ha]
    have has : a.size ≤ maxLen := by rw [← size_list, ha]; exact (HM.out _ (List.getElem_mem hk)).2
    rw [← ha] at c3
    have d3 : w2.cell? ⟨g, off + k * 3 + 2, none⟩ = some (.string a) := (hb2.cell (p := ⟨g, off + k * 3 + 2, none⟩) hgs).trans c3
    have hgr : g < w2.heap.size := Nat.lt_of_lt_of_le hgs hb2.size
    have hk0 : (0 : Int) ≤ (k : Int) := by omega
    have hki : (k : Int) < (ts.length : Int) := by omega
    have HAS : Hid (a.size ≤ maxLen) := has
    clear hz hz1 hc' hce c3 ha h1 h2 has
    go_wp2_with fail
    refine (knum_at a _ HAS.out).mono ?_
    rintro e w3 ⟨rfl, rfl⟩
    rw [HA.out]
    go_wp2_with fail
    go_ret2
    exact ⟨rfl, hb2⟩
end Go.Proofs.Ytoccjnbodoiibaa
