/-
  What Unescape, respell and Escape of package target compute.
-/
import Derived.Test.YtbmmlbphbllcoaaDoorMd
import Derived.DataShut
namespace Go.Proofs.YtbmmlbphbllcoaaDoor
open Go.RowKit

set_option maxHeartbeats 1000000 in
set_option maxRecDepth 100000 in
theorem un1_at (B b : Nat) (l : List UInt8) (c : UInt8) (x : Bool) (w : World) (h : Bld B b l w) (hl : l.length ≤ 1000) (hB : B ≤ w.heap.size) :
    Calls Tryd.prog 26 #[.int .u8 (c.toNat : Int), .bool x, .pointer (some ⟨b, 0, none⟩)] w fun e w' => e = .returned (.bool true) ∧ Bld B b (l ++ [c]) w' ∧ Below B w w' := by
  have HB : Hid (Bld B b l w) := h
  clear h
  go_enter Tryd.func26, Tryd.ntmps26
  go_wp2_with fail
  refine (wbyte_at B b l c _ HB.out hl hB).mono ?_
  rintro e w2 ⟨rfl, hb2, hw2⟩
  go_wp2_with fail
  go_ret
  exact ⟨rfl, hb2, hw2⟩
set_option maxHeartbeats 1000000 in
set_option maxRecDepth 100000 in
theorem re1_at (B b : Nat) (d : List Tk) (t : Tk) (w : World) (h : Bld B b (prT (d.map can)) w) (hl : d.length ≤ 200) (hB : B ≤ w.heap.size) :
    Calls Tryd.prog 50 #[.int .u8 (t.1.toNat : Int), .bool t.2, .pointer (some ⟨b, 0, none⟩)] w fun e w' => e = .returned (.bool (t.2 || vis t.1)) ∧ Bld B b (prT ((d ++ [t]).map can)) w' ∧ Below B w w' := by
  have HB : Hid (Bld B b (prT (d.map can)) w) := h
  have HL : Hid ((prT (d.map can)).length ≤ 600) := by
    have := prT_le (d.map can)
    rw [List.length_map] at this
    show _ ≤ _; omega
  have HE : Hid (prT ((d ++ [t]).map can) = prT (d.map can) ++ pr1 (can t)) := by show _ = _; rw [List.map_append, prT_app]; simp [prT]
  clear h
  obtain ⟨c, x⟩ := t
  cases x
  · have HE2 : Hid (pr1 (can (c, false)) = [c]) := by show _ = _; unfold can pr1; simp
    have HV : Hid ((false || vis c) = vis c) := rfl
    go_enter Tryd.func50, Tryd.ntmps50
    go_wp2_with fail
    refine (wbyte_at B b _ c _ HB.out (by have := HL.out; omega) hB).mono ?_
    rintro e w2 ⟨rfl, hb2, hw2⟩
    have HB2 : Hid (Bld B b (prT ((d ++ [(c, false)]).map can)) w2) := by show Bld _ _ _ _; rw [HE.out, HE2.out]; exact hb2
    go_wp2_with fail
    refine (mayStand_any c _).mono ?_
    rintro e w3 ⟨rfl, rfl⟩
    go_wp2_with fail
    go_ret
    exact ⟨ret_bool rfl, HB2.out, hw2⟩
  · have HE2 : Hid (pr1 (can (c, true)) = pr1 (c, !freeB c)) := by show _ = _; unfold can; simp
    go_enter Tryd.func50, Tryd.ntmps50
    go_wp2_with fail
    refine (writeB_at B b _ c _ HB.out (by have := HL.out; omega) hB).mono ?_
    rintro e w2 ⟨rfl, hb2, hw2⟩
    have HB2 : Hid (Bld B b (prT ((d ++ [(c, true)]).map can)) w2) := by show Bld _ _ _ _; rw [HE.out, HE2.out]; exact hb2
    go_wp2_with fail
    go_ret
    exact ⟨rfl, HB2.out, hw2⟩
theorem bstr_at (B b : Nat) (l : List UInt8) (w : World) (h : Bld B b l w) (hB : B ≤ w.heap.size) :
    Calls Tryd.prog 23 #[.pointer (some ⟨b, 0, none⟩)] w fun e w' => e = .returned (.string ⟨l.toArray⟩) ∧ Below B w w' := by
  refine (Tryd.Builder_String_any_f B b l w h hB).mono ?_
  rintro e w' ⟨rfl, hw⟩
  exact ⟨rfl, hw.2⟩
set_option maxHeartbeats 1000000 in
set_option maxRecDepth 100000 in
theorem unesc_any (s : ByteArray) (w : World) (hT : STabs w) :
    Calls Tryd.prog 11 #[.string s] w fun e w' => e = .returned (.tuple #[.string ⟨(unR s.data.toList).1.toArray⟩, .int .i64 (unR s.data.toList).2]) ∧ Below w.heap.size w w' := by
  have hmf : ∀ (fn : Fn) (first cap : Array Value) (w : World), (Instr.makeFunc fn first cap).run Tryd.prog w = .ok (.func fn first cap) w := fun _ _ _ _ => rfl
  have HT : Hid (STabs w) := hT
  clear hT
  by_cases hs : s.size ≤ 200
  · have hsi : ¬ (200 : Int) < (s.size : Int) := by omega
    have HN := bld_new w
    have HBN : Hid (Bld w.heap.size w.heap.size [] (w.alloc (.cells #[.pointer none, .slice none 0 0] 37)) ∧ Below w.heap.size w (w.alloc (.cells #[.pointer none, .slice none 0 0] 37))) := ⟨HN, (Below.refl _ w).alloc (Nat.le_refl _) _⟩
    clear HN
    go_enter Tryd.func11, Tryd.ntmps11
    go_wp2_with fail
    refine (show_at s hs 26 #[.pointer (some ⟨w.heap.size, 0, none⟩)] (enters_of Tryd.func26 (by kernel_rfl) rfl)
      (fun (d : List Tk) (W : World) => Bld w.heap.size w.heap.size (d.map fun t : Tk => t.1) W ∧ Below w.heap.size w W) (fun _ => true) (fun _ => rfl) (fun d W h => HT.out.below h.2)
      (fun d W W' h hb => ⟨h.1.below hb, h.2.trans (hb.mono h.2.size)⟩)
      (fun d t W h hd => (un1_at w.heap.size w.heap.size _ t.1 t.2 W h.1 (by rw [List.length_map]; omega) h.2.size).mono ?_) _ HBN.out).mono ?_
    · rintro e W' ⟨rfl, hb, hw⟩
      exact ⟨rfl, by rw [List.map_append]; exact hb, h.2.trans hw⟩
    rintro e w2 ⟨d, r, rfl, hI, hdl, hr1, hr2⟩
    have HI : Hid (Bld w.heap.size w.heap.size (d.map fun t : Tk => t.1) w2 ∧ Below w.heap.size w w2) := hI
    have HR : Hid (unR s.data.toList = match unT s.data.toList with | some ts => (ts.map (·.1), 0) | none => ([], 3)) := by
      show _ = _; unfold unR; rw [if_neg (by rw [size_list]; omega)]
      cases unT s.data.toList <;> rfl
    cases r
    · have HU : Hid (unT s.data.toList = none) := by
        rcases hr2 rfl with h | ⟨c, _, h⟩
        · exact h
        · cases h
      clear hr1 hr2 hI
      go_wp2_with fail
      go_ret2
      rw [HR.out, HU.out]
      exact ⟨rfl, HI.out.2⟩
    · have HU : Hid (unT s.data.toList = some d) := (hr1 rfl).1
      clear hr1 hr2 hI
      go_wp2_with fail
      refine (bstr_at _ _ _ _ HI.out.1 HI.out.2.size).mono ?_
      rintro e w3 ⟨rfl, hw3⟩
      go_wp2_with fail
      go_ret2
      rw [HR.out, HU.out]
      exact ⟨rfl, HI.out.2.trans hw3⟩
  · have hsi : (200 : Int) < (s.size : Int) := by omega
    have HR : Hid (unR s.data.toList = ([], 2)) := by show _ = _; unfold unR; rw [if_pos (by rw [size_list]; omega)]
    go_enter Tryd.func11, Tryd.ntmps11
    go_wp2_with fail
    go_ret2
    rw [HR.out]
    exact ⟨rfl, Below.refl _ _⟩
set_option maxHeartbeats 1000000 in
set_option maxRecDepth 100000 in
theorem respell_any (s : ByteArray) (w : World) (hT : STabs w) (hs : s.size ≤ 200) :
    Calls Tryd.prog 29 #[.string s] w fun e w' => Below w.heap.size w w' ∧ ((∃ ts, unT s.data.toList = some ts ∧ (∀ t ∈ ts, (t.2 || vis t.1) = true) ∧ e = .returned (.tuple #[.string ⟨(prT (ts.map can)).toArray⟩, .bool true])) ∨
      ((unT s.data.toList = none ∨ ∃ c ∈ s.data.toList, vis c = false) ∧ ∃ x, e = .returned (.tuple #[.string x, .bool false]))) := by
  have hmf : ∀ (fn : Fn) (first cap : Array Value) (w : World), (Instr.makeFunc fn first cap).run Tryd.prog w = .ok (.func fn first cap) w := fun _ _ _ _ => rfl
  have HT : Hid (STabs w) := hT
  clear hT
  have HN := bld_new w
  have HBN : Hid (Bld w.heap.size w.heap.size [] (w.alloc (.cells #[.pointer none, .slice none 0 0] 37)) ∧ Below w.heap.size w (w.alloc (.cells #[.pointer none, .slice none 0 0] 37))) := ⟨HN, (Below.refl _ w).alloc (Nat.le_refl _) _⟩
  clear HN
  go_enter Tryd.func29, Tryd.ntmps29
  go_wp2_with fail
  refine (show_at s hs 50 #[.pointer (some ⟨w.heap.size, 0, none⟩)] (enters_of Tryd.func50 (by kernel_rfl) rfl)
    (fun d W => Bld w.heap.size w.heap.size (prT (d.map can)) W ∧ Below w.heap.size w W) (fun t => t.2 || vis t.1) (fun _ => rfl) (fun d W h => HT.out.below h.2)
    (fun d W W' h hb => ⟨h.1.below hb, h.2.trans (hb.mono h.2.size)⟩)
    (fun d t W h hd => (re1_at w.heap.size w.heap.size d t W h.1 (by omega) h.2.size).mono ?_) _ HBN.out).mono ?_
  · rintro e W' ⟨rfl, hb, hw⟩
    exact ⟨rfl, hb, h.2.trans hw⟩
  rintro e w2 ⟨d, r, rfl, hI, hdl, hr1, hr2⟩
  have HI : Hid (Bld w.heap.size w.heap.size (prT (d.map can)) w2 ∧ Below w.heap.size w w2) := hI
  have HR1 : Hid (r = true → unT s.data.toList = some d ∧ ∀ t ∈ d, (t.2 || vis t.1) = true) := hr1
  have HR2 : Hid (r = false → unT s.data.toList = none ∨ ∃ c ∈ s.data.toList, (false || vis c) = false) := hr2
  clear hr1 hr2 hI
  go_wp2_with fail
  refine (bstr_at _ _ _ _ HI.out.1 HI.out.2.size).mono ?_
  rintro e w3 ⟨rfl, hw3⟩
  go_wp2_with fail
  go_ret2
  refine ⟨HI.out.2.trans hw3, ?_⟩
  cases r
  · refine .inr ⟨?_, _, rfl⟩
    rcases HR2.out rfl with h | ⟨c, hc, h⟩
    · exact .inl h
    · exact .inr ⟨c, hc, h⟩
  · exact .inl ⟨d, (HR1.out rfl).1, (HR1.out rfl).2, rfl⟩
theorem escS_app (a b : List UInt8) : escS (a ++ b) = escS a ++ escS b := by unfold escS; rw [List.map_append, prT_app]
theorem escS_ge (l : List UInt8) : l.length ≤ (escS l).length := by
  induction l with
  | nil => simp
  | cons c l ih =>
    have h : escS (c :: l) = pr1 (c, !freeB c) ++ escS l := by unfold escS; rw [List.map_cons, prT_cons]
    rw [h, List.length_append, List.length_cons]
    have : 1 ≤ (pr1 (c, !freeB c)).length := by unfold pr1; split <;> simp [escB]
    omega
theorem escS_pre (l : List UInt8) (k : Nat) : (escS (l.take k)).length ≤ (escS l).length := by
  have := escS_app (l.take k) (l.drop k)
  rw [List.take_append_drop] at this
  rw [this, List.length_append]; omega
set_option maxHeartbeats 1000000 in
set_option maxRecDepth 100000 in
theorem escape_any (s : ByteArray) (w : World) :
    Calls Tryd.prog 9 #[.string s] w fun e w' => e = .returned (.tuple #[.string ⟨(escR s.data.toList).1.toArray⟩, .int .i64 (escR s.data.toList).2]) ∧ Below w.heap.size w w' := by
  have HN := bld_new w
  have HBN : Hid (Bld w.heap.size w.heap.size [] (w.alloc (.cells #[.pointer none, .slice none 0 0] 37)) ∧ Below w.heap.size w (w.alloc (.cells #[.pointer none, .slice none 0 0] 37))) := ⟨HN, (Below.refl _ w).alloc (Nat.le_refl _) _⟩
  clear HN
  go_enter Tryd.func9, Tryd.ntmps9
  go_wp2_with fail
  go_loopw [8] (fun i wr => ∃ k : Nat, i = .int .i64 k ∧ k ≤ s.size ∧ Hid ((escS (s.data.toList.take k)).length ≤ 200 ∧ Bld w.heap.size w.heap.size (escS (s.data.toList.take k)) wr ∧ Below w.heap.size w wr)) (fun i _ => s.size - (intOf i).toNat)
  case atStart => exact ⟨0, rfl, Nat.zero_le _, by simp [escS, prT], HBN.out⟩
  case round =>
    obtain ⟨k, rfl, hk, hh⟩ := hrel
    by_cases hlt : k < s.size
    · have hki : (k : Int) < (s.size : Int) := by omega
      have hts := take_snoc s k hlt
      have hk200 : (k : Int) ≤ 200 := by
        have h1 := escS_ge (s.data.toList.take k)
        have h2 := hh.out.1
        rw [List.length_take, size_list] at h1
        omega
      have HE : Hid (escS (s.data.toList.take (k + 1)) = escS (s.data.toList.take k) ++ pr1 (s[k], !freeB s[k])) := by show _ = _; rw [hts, escS_snoc]
      have HW := fun W => writeB_at w.heap.size w.heap.size (escS (s.data.toList.take k)) s[k] W
      clear hts
      go_wp2_with fail
      refine (HW _ hh.out.2.1 (by have := hh.out.1; omega) hh.out.2.2.size).mono ?_
      rintro e w2 ⟨rfl, hb2, hw2⟩
      obtain ⟨L, hL⟩ : ∃ L, L = escS (s.data.toList.take (k + 1)) := ⟨_, rfl⟩
      have HB2 : Hid (Bld w.heap.size w.heap.size L w2 ∧ Below w.heap.size w w2) := ⟨by rw [hL, HE.out]; exact hb2, hh.out.2.2.trans hw2⟩
      have HL : Hid (L = escS (s.data.toList.take (k + 1))) := hL
      clear hb2 hw2 hL hh HW
      go_wp2_with fail
      refine (Tryd.Builder_Len_f w.heap.size w.heap.size _ _ HB2.out.1).mono ?_
      rintro e w3 ⟨rfl, rfl⟩
      rw [Lib.byteCells_length]
      by_cases hl : 200 < L.length
      · have hli : (200 : Int) < (L.length : Int) := by omega
        have HR : Hid (escR s.data.toList = ([], 2)) := by
          have h1 := escS_pre s.data.toList (k + 1)
          rw [← HL.out] at h1
          show _ = _; unfold escR; rw [if_pos (by omega)]
        go_wp2_with fail
        go_ret2
        rw [HR.out]
        exact ⟨rfl, HB2.out.2⟩
      · have hli : ¬ (200 : Int) < (L.length : Int) := by omega
        have HN : Hid ((escS (s.data.toList.take (k + 1))).length ≤ 200 ∧ Bld w.heap.size w.heap.size (escS (s.data.toList.take (k + 1))) w3 ∧ Below w.heap.size w w3) := by rw [← HL.out]; exact ⟨by omega, HB2.out⟩
        go_wp2_with fail
        go_roundw
        case rel => exact ⟨k + 1, by go_num, by omega, HN⟩
        case measure => simp [intOf]; omega
    · obtain rfl : k = s.size := by omega
      have HR : Hid (escR s.data.toList = (escS s.data.toList, 0)) := by
        have h1 := hh.out.1
        rw [take_all] at h1
        show _ = _; unfold escR; rw [if_neg (by omega)]
      go_wp2_with fail
      refine (bstr_at _ _ _ _ hh.out.2.1 hh.out.2.2.size).mono ?_
      rintro e w3 ⟨rfl, hw3⟩
      go_wp2_with fail
      go_ret2
      rw [HR.out, take_all]
      exact ⟨rfl, hh.out.2.2.trans hw3⟩
end Go.Proofs.YtbmmlbphbllcoaaDoor

/-
  What walk of package target computes: the steps that are left.
-/
namespace Go.Proofs.YtbmmlbphbllcoaaDoor
open Go.RowKit

theorem own_take {w : World} {B : Nat} {v : Value} {n : Nat} {xs : List Value} (h : w.ownsRow B 9 1 v n xs) (i : Nat) (hi : i ≤ n) :
    ∃ v', (∀ W, (Instr.slice 27 v none (some (.int .i64 (i : Int))) none).run Tryd.prog W = .ok v' W) ∧ w.ownsRow B 9 1 v' i (xs.take i) ∧ v'.ownBlock = v.ownBlock := by
  have hl := h.1
  rcases h.2 with ⟨rfl, rfl⟩ | ⟨g, cap, cur, rfl, hB, hg, hnc, hcm, hs, ht⟩
  · obtain rfl : i = 0 := by omega
    refine ⟨.slice none 0 0, fun W => ?_, ⟨by simp, .inl ⟨rfl, rfl⟩⟩, rfl⟩
    rw [run_slice_h W 27 none 0 0 (by rw [elemS9]; exact Tryd.underlying27) .i64 ((0 : Nat) : Int) (by omega) (by omega), elemS9, Tryd.sizeOf9]
    simp [Result.andThen, sliced]
  · refine ⟨.slice (some ⟨g, 0, none⟩) i cap, fun W => ?_, ⟨by rw [List.length_take]; omega, .inr ⟨g, cap, cur, rfl, hB, hg, by omega, hcm, hs, ?_⟩⟩, rfl⟩
    · rw [run_slice_h W 27 (some ⟨g, 0, none⟩) n cap (by rw [elemS9]; exact Tryd.underlying27) .i64 (i : Int) (by omega) (by omega), elemS9, Tryd.sizeOf9]
      simp [Result.andThen, sliced, addr_mk]
    · rw [← ht, List.take_take]; congr 1; omega
theorem strsV_snoc (a : List (List UInt8)) (b : List UInt8) : strsV (a ++ [b]) = strsV a ++ [.string ⟨b.toArray⟩] := by simp [strsV]
theorem eq_dot (x : Step) (hx : TkOk x) : ((⟨(prT x).toArray⟩ : ByteArray).toList == [46]) = decide (x = dot1) ∧ ((⟨(prT x).toArray⟩ : ByteArray).toList == [46, 46]) = decide (x = dot2) := by
  obtain ⟨h1, h2⟩ := dot_bytes x hx
  rw [ByteArray.toList_eq]
  show (prT x == [46]) = _ ∧ (prT x == [46, 46]) = _
  refine ⟨?_, ?_⟩
  · rw [Bool.eq_iff_iff]; simp [h1]
  · rw [Bool.eq_iff_iff]; simp [h2]
set_option maxHeartbeats 4000000 in
set_option maxRecDepth 100000 in
theorem walk_at (p : ByteArray) (S init : List Step) (last : Step) (hS : S = init ++ [last]) (hp : p.data.toList = wordsB 47 (S.map prT)) (hno : ∀ x ∈ S.map prT, ∀ b ∈ x, b ≠ 47) (hok : ∀ x ∈ S, TkOk x) (hps : p.size ≤ 200)
    (m : Int) (w : World) (hm : w.cell? ⟨0, 0, none⟩ = some (.int .i64 m)) :
    Calls Tryd.prog 30 #[.string p] w fun e w' => ∃ v, e = .returned v ∧ w'.ownsRow w.heap.size 9 1 v (remS [] S).length (strsV ((remS [] S).map prT)) ∧ Below w.heap.size w w' := by
  obtain ⟨i0, hi, hz0, hz1, hz2⟩ := info_parts info9
  have HS := rsplit_at p _ hp hno m w hm (by omega)
  have hLp : init.length + 1 ≤ 200 := by
    have h1 := wordsB_len 47 (S.map prT)
    rw [← hp, size_list, List.length_map, hS, List.length_append] at h1
    simp at h1; omega
  have HOK : Hid (∀ x ∈ S, TkOk x) := hok
  have hSl : S.length = init.length + 1 := by rw [hS]; simp
  have HSL : Hid (S.length = init.length + 1) := hSl
  have HLA : Hid (S = init ++ [last]) := hS
  clear hp hno hok hm hS
  go_enter Tryd.func30, Tryd.ntmps30
  go_wp2_with fail
  refine HS.mono ?_
  rintro e w1 ⟨v0, rfl, hs0, hb1⟩
  obtain ⟨v1, hr1, hs1⟩ := hs0.drop 1 (by simp)
  have hr1' : ∀ W, (Instr.slice 27 v0 (some (.int .i64 1)) none none).run Tryd.prog W = .ok v1 W := fun W => by simpa using hr1 W
  obtain ⟨g, off, cap, hv1, hcap, hcm, hg, hce⟩ := hs1
  have hlen : (([] :: S.map prT).drop 1).length = init.length + 1 := by simp [hSl]
  rw [hlen] at hv1 hcap
  have HC : Hid (∀ (k : Nat) (h : k < S.length), w1.cell? ⟨g, off + k, none⟩ = some (.string ⟨(prT S[k]).toArray⟩)) := by
    intro k hk
    exact (hce k (by rw [hlen]; omega)).trans (by simp)
  obtain ⟨L, hL⟩ : ∃ L, L = init.length := ⟨_, rfl⟩
  have HLL : Hid (L = init.length) := hL
  rw [← hL] at hv1 hcap hLp HSL
  subst hv1
  unfold maxLen at hcm
  have hsz1 := hb1.size
  clear hs0 hr1 hce hlen hSl hL
  go_wp2_with fail
  go_loopw [4, 13] (fun kv i wr => ∃ k : Nat, k ≤ L + 1 ∧ i = .int .i64 k ∧ wr.ownsRow w1.heap.size 9 1 kv (runS [] (S.take k)).length (strsV ((runS [] (S.take k)).map prT)) ∧ Below w1.heap.size w1 wr) (fun _ i _ => L + 1 - (intOf i).toNat)
  case atStart => exact ⟨0, Nat.zero_le _, rfl, World.ownsRow_nil _ _ _ _, Below.refl _ _⟩
  case round =>
    obtain ⟨k, hk, rfl, hown, hw⟩ := hrel
    have hszr := hw.size
    by_cases hlt : k < L + 1
    · have hkS : k < S.length := by rw [HSL.out]; exact hlt
      have hcl := (hw.cell (p := ⟨g, off + k, none⟩) hg).trans (HC.out k hkS)
      have htk : S.take (k + 1) = S.take k ++ [S[k]] := List.take_succ_eq_append_getElem hkS
      have hrun := runS_snoc (S.take k) S[k]
      rw [← htk] at hrun
      obtain ⟨hd1, hd2⟩ := eq_dot S[k] (HOK.out _ (List.getElem_mem hkS))
      have hrl := runS_len (S.take k) []
      rw [List.length_take] at hrl
      obtain ⟨R, hR⟩ : ∃ R, R = runS [] (S.take k) := ⟨_, rfl⟩
      rw [← hR] at hown hrun hrl
      have hR200 : R.length ≤ 200 := by simp at hrl; omega
      obtain ⟨x, hx⟩ : ∃ x, x = S[k] := ⟨_, rfl⟩
      rw [← hx] at hcl hrun hd1 hd2
      obtain ⟨u, hu⟩ : ∃ u : ByteArray, u = ⟨(prT x).toArray⟩ := ⟨_, rfl⟩
      rw [← hu] at hcl hd1 hd2
      have HU : Hid (u = ⟨(prT x).toArray⟩) := hu
      have HRUN : Hid (runS [] (S.take (k + 1)) = if x = dot1 then R else if x = dot2 then R.dropLast else R ++ [x]) := hrun
      have hki : (k : Int) < (L : Int) + 1 := by omega
      have hgr : g < wr.heap.size := Nat.lt_of_lt_of_le hg hszr
      clear htk hrun hrl hR hx hu hkS
      obtain ⟨ad, kc, hkv, hkm, hknc, _⟩ := own_form2 hown
      subst hkv
      unfold maxLen at hkm
      by_cases h1 : x = dot1
      · rw [decide_eq_true h1] at hd1
        have HR2 : Hid (runS [] (S.take (k + 1)) = R) := by show _ = _; rw [HRUN.out, if_pos h1]
        clear h1 hd2
        go_wp2_with fail
        go_roundw
        case rel => exact ⟨k + 1, by omega, by go_num, by rw [HR2.out]; exact hown, hw⟩
        case measure => simp [intOf]; omega
      · rw [decide_eq_false h1] at hd1
        by_cases h2 : x = dot2
        · rw [decide_eq_true h2] at hd2
          have HR2 : Hid (runS [] (S.take (k + 1)) = R.dropLast) := by show _ = _; rw [HRUN.out, if_neg h1, if_pos h2]
          obtain ⟨v', hsl, hown', _⟩ := own_take hown (R.length - 1) (by omega)
          have hmx : max ((R.length : Int) - 1) 0 = ((R.length - 1 : Nat) : Int) := by omega
          have HO' : Hid (wr.ownsRow w1.heap.size 9 1 v' (runS [] (S.take (k + 1))).length (strsV ((runS [] (S.take (k + 1))).map prT))) := by
            show wr.ownsRow _ _ _ _ _ _
            rw [HR2.out, map_dropLast', List.length_dropLast]
            have e : strsV ((R.map prT).take (R.length - 1)) = (strsV (R.map prT)).take (R.length - 1) := by unfold strsV; rw [List.map_take]
            rw [e]; exact hown'
          rw [← hmx] at hsl
          clear h1 h2 hown' hmx
          go_wp2_with fail
          go_roundw
          case rel => exact ⟨k + 1, by omega, by go_num, HO'.out, hw⟩
          case measure => simp [intOf]; omega
        · rw [decide_eq_false h2] at hd2
          have HR2 : Hid (runS [] (S.take (k + 1)) = R ++ [x]) := by show _ = _; rw [HRUN.out, if_neg h1, if_neg h2]
          clear h1 h2
          go_wp2_with (at_builtin; refine wpList_append_own _ rfl _ _ 27 rfl w1.heap.size 9 i0 (.string ⟨#[]⟩) 1 16 Tryd.underlying27 hi hz0 hz1 hz2 rfl (by decide) _ _ _ rfl (hown.alloc _) ⟨wr.heap.size, 0, none⟩ 1 1 [.string u] rfl rfl ?c1 ?c2 ?c3 ?c4 ?c5 ?_)
          case c1 => exact one_cell _ _ _
          case c2 => intro x hx; simp at hx; subst hx; rfl
          case c3 => unfold maxLen; omega
          case c4 => omega
          case c5 => simp; omega
          · intro v' w4 hown' hgrow _
            have hB : Below w1.heap.size w1 w4 := (hw.alloc (by omega) _).grown hgrow (by simp; omega) (fun b hb => ((hown.alloc (.cells #[.string u] 9)).lt b hb).1)
            have hown4 : w4.ownsRow w1.heap.size 9 1 v' (runS [] (S.take (k + 1))).length (strsV ((runS [] (S.take (k + 1))).map prT)) := by
              rw [HR2.out, List.map_append, List.map_singleton, strsV_snoc, List.length_append, ← HU.out]; exact hown'
            clear hown' hgrow hown hw
            go_wp2_with fail
            go_roundw
            case rel => exact ⟨k + 1, by omega, by go_num, hown4, hB⟩
            case measure => simp [intOf]; omega
    · obtain rfl : k = L + 1 := by omega
      have hts : S.take (L + 1) = S := by rw [← HSL.out, List.take_length]
      rw [hts] at hown
      have hcl := (hw.cell (p := ⟨g, off + L, none⟩) hg).trans (HC.out L (by rw [HSL.out]; omega))
      have hlast : S[L]'(by rw [HSL.out]; omega) = last := by
        have h1 : S[L]? = some last := by rw [HLA.out, HLL.out]; simp
        have h2 := List.getElem?_eq_getElem (l := S) (i := L) (by rw [HSL.out]; omega)
        rw [h1] at h2; exact (Option.some.inj h2).symm
      rw [hlast] at hcl
      have HRM : Hid (remS [] S = if last = dot1 ∨ last = dot2 then runS [] S ++ [[]] else runS [] S) := by show _ = _; rw [HLA.out]; exact remS_runS init last
      obtain ⟨hd1, hd2⟩ := eq_dot last (HOK.out _ (by rw [HLA.out]; simp))
      have hrl := runS_len S []
      rw [HSL.out] at hrl
      obtain ⟨R, hR⟩ : ∃ R, R = runS [] S := ⟨_, rfl⟩
      rw [← hR] at hown HRM hrl
      have hR200 : R.length ≤ 201 := by simp at hrl; omega
      obtain ⟨u, hu⟩ : ∃ u : ByteArray, u = ⟨(prT last).toArray⟩ := ⟨_, rfl⟩
      rw [← hu] at hcl hd1 hd2
      have hgr : g < wr.heap.size := Nat.lt_of_lt_of_le hg hszr
      have HW : Hid (Below w.heap.size w wr) := hb1.trans (hw.mono hsz1)
      clear hts hlast hrl hR hu
      obtain ⟨ad, kc, hkv, hkm, hknc, _⟩ := own_form2 hown
      subst hkv
      unfold maxLen at hkm
      by_cases h1 : last = dot1 ∨ last = dot2
      · have HR2 : Hid (remS [] S = R ++ [[]]) := by show _ = _; rw [HRM.out, if_pos h1]
        have hor : (u.toList == [46]) = true ∨ ((u.toList == [46]) = false ∧ (u.toList == [46, 46]) = true) := by
          rw [hd1, hd2]
          by_cases h3 : last = dot1
          · left; exact decide_eq_true h3
          · right; rcases h1 with h1 | h1
            · exact absurd h1 h3
            · exact ⟨decide_eq_false h3, decide_eq_true h1⟩
        clear hd1 hd2 h1
        rcases hor with hor | ⟨hor, hor2⟩
        all_goals (
          go_wp2_with (at_builtin; refine wpList_append_own _ rfl _ _ 27 rfl w1.heap.size 9 i0 (.string ⟨#[]⟩) 1 16 Tryd.underlying27 hi hz0 hz1 hz2 rfl (by decide) _ _ _ rfl (hown.alloc _) ⟨wr.heap.size, 0, none⟩ 1 1 [.string ⟨#[]⟩] rfl rfl ?c1 ?c2 ?c3 ?c4 ?c5 ?_)
          case c1 => exact one_cell _ _ _
          case c2 => intro x hx; simp at hx; subst hx; rfl
          case c3 => unfold maxLen; omega
          case c4 => omega
          case c5 => simp; omega
          · intro v' w4 hown' hgrow _
            have hB : Below w1.heap.size w1 w4 := (hw.alloc (by omega) _).grown hgrow (by simp; omega) (fun b hb => ((hown.alloc (.cells #[.string ⟨#[]⟩] 9)).lt b hb).1)
            have hown4 : w4.ownsRow w1.heap.size 9 1 v' (remS [] S).length (strsV ((remS [] S).map prT)) := by
              rw [HR2.out, List.map_append, List.map_singleton, strsV_snoc, List.length_append]; exact hown'
            clear hown' hgrow hown hw
            go_wp2_with fail
            go_ret
            exact ⟨_, rfl, own_le hown4 hsz1, hb1.trans (hB.mono hsz1)⟩)
      · have HR2 : Hid (remS [] S = R) := by show _ = _; rw [HRM.out, if_neg h1]
        rw [decide_eq_false (fun h => h1 (.inl h))] at hd1
        rw [decide_eq_false (fun h => h1 (.inr h))] at hd2
        clear h1
        go_wp2_with fail
        go_ret
        refine ⟨_, rfl, ?_, HW.out⟩
        rw [HR2.out]; exact own_le hown hsz1
end Go.Proofs.YtbmmlbphbllcoaaDoor

/-
  What Normal of package target computes.
-/
namespace Go.Proofs.YtbmmlbphbllcoaaDoor
open Go.RowKit

/-- A row of texts whose block stays as it is. -/
theorem own_blk {w : World} {B : Nat} {v : Value} {n : Nat} {xs : List Value} (h : w.ownsRow B 9 1 v n xs) (hn : 0 < n) : ∃ g cap cur, v = .slice (some ⟨g, 0, none⟩) n cap ∧ B ≤ g ∧ cap ≤ maxLen ∧ n ≤ cap ∧ w.heap[g]? = some (.cells cur 9 (0, 0)) ∧ ∀ W : World, W.heap[g]? = some (.cells cur 9 (0, 0)) → W.ownsRow B 9 1 v n xs := by
  have hl := h.1
  rcases h.2 with ⟨rfl, rfl⟩ | ⟨g, cap, cur, rfl, hB, hg, hnc, hcm, hs, ht⟩
  · omega
  · exact ⟨g, cap, cur, rfl, hB, hcm, hnc, hg, fun W hW => ⟨hl, .inr ⟨g, cap, cur, rfl, hB, hW, hnc, hcm, hs, ht⟩⟩⟩
theorem wbyteK_at (B b : Nat) (l : List UInt8) (c : UInt8) (w : World) (h : Bld B b l w) (hl : l.length ≤ 1000) (hB : B ≤ w.heap.size) :
    Calls Tryd.prog 27 #[.pointer (some ⟨b, 0, none⟩), .int .u8 (c.toNat : Int)] w fun e w' => e = .returned .nilIface ∧ Bld B b (l ++ [c]) w' ∧ Below B w w' ∧ Lib.OthersKept 5 (some b) w w' := by
  refine (Tryd.Builder_WriteByte_k B b _ _ _ h (by rw [Lib.byteCells_length]; omega) hB).mono ?_
  rintro e w' ⟨rfl, hb, hw, hk⟩
  refine ⟨rfl, .inr ?_, hw, hk⟩
  rw [Lib.byteCells_append]; exact hb
theorem wstrK_at (B b : Nat) (l : List UInt8) (s : ByteArray) (w : World) (h : Bld B b l w) (hl : l.length ≤ 1000) (hs : s.size ≤ 1000) (hB : B ≤ w.heap.size) :
    Calls Tryd.prog 31 #[.pointer (some ⟨b, 0, none⟩), .string s] w fun e w' => e = .returned (.tuple #[.int .i64 s.size, .nilIface]) ∧ Bld B b (l ++ s.data.toList) w' ∧ Below B w w' ∧ Lib.OthersKept 5 (some b) w w' := by
  refine (Tryd.Builder_WriteString_k B b _ s _ h (by rw [Lib.byteCells_length]; omega) hB).mono ?_
  rintro e w' ⟨rfl, hb, hw, hk⟩
  refine ⟨rfl, .inr ?_, hw, hk⟩
  show Lib.BuilderAtF _ _ _ _ _ (Lib.byteCells (l ++ s.data.toList)) w'
  rw [Lib.byteCells_append]; exact hb
theorem joinS_take (R : List Step) (k : Nat) (h : k < R.length) : prT (joinS (R.take (k + 1))) = prT (joinS (R.take k)) ++ [47] ++ prT R[k] := by
  rw [List.take_succ_eq_append_getElem h, joinS_app, prT_app]
  have : prT (joinS [R[k]]) = [47] ++ prT R[k] := by simp [joinS, prT, pr1, sl]
  rw [this, List.append_assoc]
theorem joinS_take_len (R : List Step) (k : Nat) : (prT (joinS (R.take k))).length ≤ (prT (joinS R)).length := by
  have h : prT (joinS R) = prT (joinS (R.take k)) ++ prT (joinS (R.drop k)) := by rw [← prT_app, ← joinS_app, List.take_append_drop]
  rw [h, List.length_append]; omega
theorem sn {a : List UInt8} {c : Int} {p : List UInt8 × Int} (h : p = (a, c)) : Ending.returned (.tuple #[.string ⟨a.toArray⟩, .int .i64 c]) = .returned (.tuple #[.string ⟨p.1.toArray⟩, .int .i64 p.2]) := by rw [h]
set_option maxHeartbeats 4000000 in
set_option maxRecDepth 100000 in
theorem norm_any (s : ByteArray) (m : Int) (w : World) (hT : STabs w) (hm : w.cell? ⟨0, 0, none⟩ = some (.int .i64 m)) :
    Calls Tryd.prog 13 #[.string s] w fun e w' => e = .returned (.tuple #[.string ⟨(nrmR s.data.toList).1.toArray⟩, .int .i64 (nrmR s.data.toList).2]) ∧ Below w.heap.size w w' := by
  have HT : Hid (STabs w) := hT
  have HM : Hid (w.cell? ⟨0, 0, none⟩ = some (.int .i64 m)) := hm
  clear hT hm
  by_cases hs : s.size ≤ 200
  · have hsi : ¬ (200 : Int) < (s.size : Int) := by omega
    have hl : s.data.toList.length ≤ 200 := by rw [size_list]; exact hs
    have HL : Hid (s.data.toList.length ≤ 200) := hl
    clear hl
    by_cases hh : s.data.toList.head? = some 47
    · have HP : Hid (Lib.hasPrefix s.data.toList [47] = true) := by show _ = _; rw [prefix_head]; exact decide_eq_true hh
      have HH : Hid (s.data.toList.head? = some 47) := hh
      clear hh
      go_enter Tryd.func13, Tryd.ntmps13
      go_wp2_with fail
      refine (Tryd.strings_HasPrefix s ⟨#[47]⟩ _).mono ?_
      rintro e w2 ⟨rfl, rfl⟩
      rw [show (⟨#[47]⟩ : ByteArray).data.toList = [47] from rfl, HP.out]
      go_wp2_with fail
      refine (respell_any s _ HT.out hs).mono ?_
      rintro e w3 ⟨hb3, ⟨ts, hu, hv, rfl⟩ | ⟨hbad, x, rfl⟩⟩
      · have HN : Hid (nrmR s.data.toList = (prT (remT (ts.map can)), 0)) := nrm_yes _ ts HL.out HH.out hu hv
        obtain ⟨ts', hts'⟩ : ∃ ts', ts = sl :: ts' := by
          rcases nrm_cases s.data.toList with ⟨c', hc', he⟩ | ⟨_, ts', _, _, _, hu', _⟩
          · rw [HN.out] at he; exact absurd (Prod.mk.inj he).2.symm hc'
          · rw [hu] at hu'; exact ⟨ts', Option.some.inj hu'⟩
        have htl := un_len _ _ hu
        have hpc := pr_can ts
        rw [size_list] at htl
        obtain ⟨htl1, htl2⟩ := htl
        obtain ⟨cs, hcs⟩ : ∃ cs, cs = ts.map can := ⟨_, rfl⟩
        have HTK : Hid (TkOk cs) := by show TkOk cs; rw [hcs]; exact can_ok _ (un_ok _ _ hu)
        rw [← hcs] at HN
        have hpl : (prT cs).length ≤ 200 := by rw [hcs]; omega
        obtain ⟨cs', hcs'⟩ : ∃ cs', cs = sl :: cs' := ⟨ts'.map can, by rw [hcs, hts']; rfl⟩
        obtain ⟨S, hS⟩ : ∃ S, S = (segs (pathT cs)).tail := ⟨_, rfl⟩
        have hpj : pathT cs = joinS S := by rw [hS, hcs', path_sl, segs_sl_join]
        have HPJ : Hid (wordsB 47 (S.map prT) = prT (pathT cs)) := by show _ = _; rw [hpj, wordsB_join]
        have HSN : Hid (∀ x ∈ S.map prT, ∀ b ∈ x, b ≠ 47) := by
          intro x hx
          obtain ⟨y, hy, rfl⟩ := List.mem_map.1 hx
          rw [hS] at hy
          exact pr_no y 47 (by decide) (by decide) (segs_ok _ y (List.mem_of_mem_tail hy))
        have HST : Hid (∀ x ∈ S, TkOk x) := by
          intro x hx t ht hf
          rw [hS] at hx
          exact HTK.out t (List.takeWhile_subset _ (segs_mem _ x (List.mem_of_mem_tail hx) t ht)) hf
        have hS0 : S ≠ [] := by rw [hS, hcs']; exact tail_ne cs'
        have HR : Hid (prT (remT cs) = prT (joinS (remS [] S)) ++ prT (restT cs)) := by
          show _ = _
          rw [remT_eq, prT_app, hS]; rfl
        have hrl : (prT (remT cs)).length ≤ 200 := by
          have := (remT_len cs').1
          rw [← hcs'] at this; omega
        have HR0 : Hid (0 < (remS [] S).length) := by
          have := remS_ne S [] hS0
          show 0 < _
          rcases hq : remS [] S with _ | ⟨a, b⟩
          · exact absurd hq this
          · simp
        have HPQ : Hid (prT cs = prT (pathT cs) ++ prT (restT cs)) := by show _ = _; rw [← prT_app, path_rest cs]
        have hno : ∀ b ∈ prT (pathT cs), b ≠ 63 := pr_no _ 63 (by decide) (by decide) (path_no cs)
        obtain ⟨init, last, hil⟩ : ∃ init last, S = init ++ [last] := by
          rcases List.eq_nil_or_concat S with h | ⟨i, l, h⟩
          · exact absurd h hS0
          · exact ⟨i, l, by rw [h, List.concat_eq_append]⟩
        obtain ⟨text, htx⟩ : ∃ text : ByteArray, text = ⟨(prT cs).toArray⟩ := ⟨_, rfl⟩
        have HTX : Hid (text.data.toList = prT cs) := by show _ = _; rw [htx]
        have htxs : text.size ≤ 200 := by rw [← size_list, HTX.out]; exact hpl
        rw [← hcs, ← htx]
        have hcut : (Lib.cut text.data.toList [63]).1 = prT (pathT cs) := by
          rw [HTX.out, HPQ.out]
          rcases rest_head cs with hr | ⟨q, hr⟩
          · rw [hr, prT_nil, List.append_nil, cutd_no 63 _ hno]
          · rw [hr, prT_cons]
            show (Lib.cut (prT (pathT cs) ++ 63 :: prT q) [63]).1 = _
            rw [cutd_yes 63 _ _ hno]
        obtain ⟨path, hpa⟩ : ∃ path : ByteArray, path = ⟨(Lib.cut text.data.toList [63]).1.toArray⟩ := ⟨_, rfl⟩
        have HPA : Hid (path.data.toList = prT (pathT cs)) := by show _ = _; rw [hpa]; exact hcut
        obtain ⟨o2, ho2⟩ : ∃ o2 : ByteArray, o2 = ⟨(Lib.cut text.data.toList [63]).2.1.toArray⟩ := ⟨_, rfl⟩
        obtain ⟨b2, hb2⟩ : ∃ b2 : Bool, b2 = (Lib.cut text.data.toList [63]).2.2 := ⟨_, rfl⟩
        have hps : path.size ≤ 200 := by
          have := congrArg List.length HPQ.out
          rw [List.length_append, ← HPA.out, size_list] at this; omega
        obtain ⟨q, hq, hqs, hsl⟩ := slice_from text path.size (by
          have := congrArg List.length HPQ.out
          rw [List.length_append, ← HPA.out, size_list, ← HTX.out, size_list] at this; omega)
        have HQ : Hid (q.data.toList = prT (restT cs)) := by
          show _ = _
          rw [hq, HTX.out, HPQ.out, ← size_list, HPA.out, List.drop_left]
        have HC := Tryd.strings_Cut text ⟨#[63]⟩ m w3 (by omega) (cell_keep hb3 HM.out)
        rw [show (⟨#[63]⟩ : ByteArray).data.toList = [63] from rfl, ← hpa, ← ho2, ← hb2] at HC
        clear hu hv hts' htl1 htl2 hpc hcs hpl hcs' hS hpj hS0 hno htx hcut hpa ho2 hb2 hq
        go_wp2_with fail
        refine HC.mono ?_
        rintro e w4 ⟨rfl, nd, rfl⟩
        have hb4 := hb3.trans ((drewN_below w3.heap.size w3 nd).mono hb3.size)
        obtain ⟨w4, hw4⟩ : ∃ w4, w4 = w3.drewN nd := ⟨_, rfl⟩
        rw [← hw4] at hb4 ⊢
        have HN4 := bld_new w4
        have HB4 : Hid (Bld w4.heap.size w4.heap.size [] (w4.alloc (.cells #[.pointer none, .slice none 0 0] 37))) := HN4
        have hB5 : Below _ _ (w4.alloc (.cells #[.pointer none, .slice none 0 0] 37)) := hb4.alloc hb4.size _
        have HM5 := cell_keep hB5 HM.out
        have HM5' : Hid ((w4.alloc (.cells #[.pointer none, .slice none 0 0] 37)).cell? ⟨0, 0, none⟩ = some (.int .i64 m)) := HM5
        have hB5' : Below w4.heap.size w4 (w4.alloc (.cells #[.pointer none, .slice none 0 0] 37)) := (Below.refl _ w4).alloc (Nat.le_refl _) _
        have hsz5 := hB5'.size
        clear HC hw4 HN4 HM5
        go_wp2_with fail
        refine (walk_at path S init last hil (by rw [HPA.out]; exact HPJ.out.symm) HSN.out HST.out hps m _ HM5'.out).mono ?_
        rintro e w6 ⟨v6, rfl, hown6, hb6⟩
        obtain ⟨g, cap, cur, rfl, hgB, hcm, hnc, hgb, hkeep⟩ := own_blk hown6 HR0.out
        have hbl6 : Hid (Bld w4.heap.size w4.heap.size [] w6) := HB4.out.below hb6
        have hw6 : Below w4.heap.size w4 w6 := hB5'.trans (hb6.mono hsz5)
        have HK : Hid (∀ W : World, W.heap[g]? = some (.cells cur 9 (0, 0)) → W.ownsRow (w4.alloc (.cells #[.pointer none, .slice none 0 0] 37)).heap.size 9 1 (.slice (some ⟨g, 0, none⟩) (remS [] S).length cap) (remS [] S).length (strsV ((remS [] S).map prT))) := hkeep
        have hg4 : w4.heap.size < g := by simp at hgB; omega
        obtain ⟨R, hR⟩ : ∃ R, R = remS [] S := ⟨_, rfl⟩
        rw [← hR] at HK HR hnc ⊢
        have hrl' := congrArg List.length HR.out
        rw [List.length_append] at hrl'
        have HJ : Hid ((prT (joinS R)).length ≤ 200) := by show _ ≤ _; omega
        have hRn : R.length ≤ 200 := by
          have h1 := wordsB_len 47 (R.map prT)
          rw [wordsB_join, List.length_map] at h1
          omega
        unfold maxLen at hcm
        have hqs2 : q.size ≤ 200 := by rw [← size_list, HQ.out]; omega
        clear hown6 hkeep hb6 HB4 hgB hR hrl' hrl hqs
        go_wp2_with fail
        go_loopw [34] (fun iv wr => ∃ k : Nat, k ≤ R.length ∧ iv = .int .i64 k ∧ Hid (Bld w4.heap.size w4.heap.size (prT (joinS (R.take k))) wr) ∧ wr.heap[g]? = some (.cells cur 9 (0, 0)) ∧ Below w4.heap.size w4 wr) (fun iv _ => R.length - (intOf iv).toNat)
        case atStart => exact ⟨0, Nat.zero_le _, rfl, hbl6, hgb, hw6⟩
        case round =>
          obtain ⟨k, hk, rfl, hbl, hgr, hw⟩ := hrel
          have hszr := hw.size
          by_cases hlt : k < R.length
          · have hcl : wr.cell? ⟨g, k, none⟩ = some (.string ⟨(prT R[k]).toArray⟩) := by
              rw [World.ownsRow.cellAt (HK.out wr hgr) k (by omega), strsV_get _ _ (by simpa using hlt)]
              simp
            have hjt := joinS_take R k hlt
            have hjl := joinS_take_len R (k + 1)
            rw [hjt, List.length_append, List.length_append] at hjl
            have hj200 := HJ.out
            obtain ⟨u, hu⟩ : ∃ u : ByteArray, u = ⟨(prT R[k]).toArray⟩ := ⟨_, rfl⟩
            have hus : u.size = (prT R[k]).length := by rw [← size_list, hu]
            have hus2 : u.size ≤ 200 := by omega
            have hpre : (prT (joinS (R.take k))).length ≤ 200 := by omega
            rw [← hu] at hcl
            have HJT : Hid (prT (joinS (R.take (k + 1))) = prT (joinS (R.take k)) ++ [47] ++ u.data.toList) := by show _ = _; rw [hjt, hu]
            obtain ⟨A, hA⟩ : ∃ A, A = prT (joinS (R.take k)) := ⟨_, rfl⟩
            rw [← hA] at hbl HJT hpre
            have hki : (k : Int) < (R.length : Int) := by omega
            have hggr : g < wr.heap.size := by
              rcases Nat.lt_or_ge g wr.heap.size with h | h
              · exact h
              · rw [Array.getElem?_eq_none h] at hgr; cases hgr
            clear hjt hjl hj200 hu hus hA
            go_wp2_with fail
            refine (wbyteK_at w4.heap.size w4.heap.size A 47 _ hbl.out (by omega) hszr).mono ?_
            rintro e w7 ⟨rfl, hb7, hw7, hk7⟩
            have HB7 : Hid (Bld w4.heap.size w4.heap.size (A ++ [47]) w7) := hb7
            have hg7 := hk7 g _ hgr (by simp; omega) (by intro c fz h; cases h)
            have hw7' := hw.trans hw7
            clear hb7 hk7 hw7 hgr
            go_wp2_with fail
            refine (wstrK_at w4.heap.size w4.heap.size _ u _ HB7.out (by rw [List.length_append]; show _ + 1 ≤ _; omega) (by omega) hw7'.size).mono ?_
            rintro e w8 ⟨rfl, hb8, hw8, hk8⟩
            have HB8 : Hid (Bld w4.heap.size w4.heap.size (prT (joinS (R.take (k + 1)))) w8) := by show Bld _ _ _ _; rw [HJT.out]; exact hb8
            have hg8 := hk8 g _ hg7 (by simp; omega) (by intro c fz h; cases h)
            have hw8' := hw7'.trans hw8
            clear hb8 hk8 hw8 hg7 hw7'
            go_wp2_with fail
            go_roundw
            case rel => exact ⟨k + 1, by omega, by go_num, HB8, hg8, hw8'⟩
            case measure => simp [intOf]; omega
          · obtain rfl : k = R.length := by omega
            have HB : Hid (Bld w4.heap.size w4.heap.size (prT (joinS R)) wr) := by
              have := hbl.out
              rw [List.take_length] at this; exact this
            go_wp2_with fail
            refine (wstrK_at w4.heap.size w4.heap.size _ q _ HB.out (by have := HJ.out; omega) (by omega) hszr).mono ?_
            rintro e w8 ⟨rfl, hb8, hw8, hk8⟩
            have HB8 : Hid (Bld w4.heap.size w4.heap.size (prT (remT cs)) w8) := by show Bld _ _ _ _; rw [HR.out, ← HQ.out]; exact hb8
            have hw8' := hw.trans hw8
            clear hb8 hk8 hw8
            go_wp2_with fail
            refine (bstr_at _ _ _ _ HB8.out hw8'.size).mono ?_
            rintro e w9 ⟨rfl, hw9⟩
            go_wp2_with fail
            go_ret2
            exact ⟨sn HN.out, hb4.trans ((hw8'.trans hw9).mono hb4.size)⟩
      · have HN : Hid (nrmR s.data.toList = ([], 3)) := nrm_no _ HL.out hbad
        clear hbad
        go_wp2_with fail
        go_ret2
        exact ⟨sn HN.out, hb3⟩
    · have HP : Hid (Lib.hasPrefix s.data.toList [47] = false) := by show _ = _; rw [prefix_head]; exact decide_eq_false hh
      have HN : Hid (nrmR s.data.toList = ([], 3)) := nrm_head _ HL.out hh
      clear hh
      go_enter Tryd.func13, Tryd.ntmps13
      go_wp2_with fail
      refine (Tryd.strings_HasPrefix s ⟨#[47]⟩ _).mono ?_
      rintro e w2 ⟨rfl, rfl⟩
      rw [show (⟨#[47]⟩ : ByteArray).data.toList = [47] from rfl, HP.out]
      go_wp2_with fail
      go_ret2
      exact ⟨sn HN.out, Below.refl _ _⟩
  · have hsi : (200 : Int) < (s.size : Int) := by omega
    have HN : Hid (nrmR s.data.toList = ([], 2)) := nrm_big _ (by rw [size_list]; omega)
    go_enter Tryd.func13, Tryd.ntmps13
    go_wp2_with fail
    go_ret2
    exact ⟨sn HN.out, Below.refl _ _⟩
theorem sn2 {a : ByteArray} {c : Int} {p : List UInt8 × Int} (h : p = (a.data.toList, c)) : Ending.returned (.tuple #[.string ⟨p.1.toArray⟩, .int .i64 p.2]) = .returned (.tuple #[.string a, .int .i64 c]) := by rw [h]
theorem norm_at (s t : ByteArray) (c : Int) (h : nrmR s.data.toList = (t.data.toList, c)) (m : Int) (w : World) (hT : STabs w) (hm : w.cell? ⟨0, 0, none⟩ = some (.int .i64 m)) :
    Calls Tryd.prog 13 #[.string s] w fun e w' => e = .returned (.tuple #[.string t, .int .i64 c]) ∧ Below w.heap.size w w' := by
  refine (norm_any s m w hT hm).mono ?_
  rintro e w' ⟨rfl, hb⟩
  exact ⟨sn2 h, hb⟩
theorem unesc_at (s t : ByteArray) (c : Int) (h : unR s.data.toList = (t.data.toList, c)) (w : World) (hT : STabs w) :
    Calls Tryd.prog 11 #[.string s] w fun e w' => e = .returned (.tuple #[.string t, .int .i64 c]) ∧ Below w.heap.size w w' := by
  refine (unesc_any s w hT).mono ?_
  rintro e w' ⟨rfl, hb⟩
  exact ⟨sn2 h, hb⟩
theorem escape_at (s t : ByteArray) (c : Int) (h : escR s.data.toList = (t.data.toList, c)) (w : World) :
    Calls Tryd.prog 9 #[.string s] w fun e w' => e = .returned (.tuple #[.string t, .int .i64 c]) ∧ Below w.heap.size w w' := by
  refine (escape_any s w).mono ?_
  rintro e w' ⟨rfl, hb⟩
  exact ⟨sn2 h, hb⟩
theorem pair_of (p : List UInt8 × Int) : ∃ (t : ByteArray) (c : Int), p = (t.data.toList, c) := ⟨⟨p.1.toArray⟩, p.2, rfl⟩
end Go.Proofs.YtbmmlbphbllcoaaDoor

/-
  The walk through TargetEscapes: it answers true and turns nothing that was there; the package variable that the library's search reads holds some number, and the listed variables of package strconv hold what their text lays.
-/
namespace Go.Proofs.YtbmmlbphbllcoaaDoor
open Go.RowKit

set_option maxHeartbeats 2000000 in
set_option maxRecDepth 100000 in
theorem walkTargetEscapes (a0 : ByteArray) (w : World) (z0 : a0.size ≤ 140737488351232) (hm : ∃ m, w.cell? ⟨0, 0, none⟩ = some (.int .i64 m)) (hT : STabs w) :
    Calls Tryd.prog 3 #[.string a0] w fun e w' => e = .returned (.bool true) ∧ Below w.heap.size w w' := by
  obtain ⟨m, hm⟩ := hm
  have HM : Hid (w.cell? ⟨0, 0, none⟩ = some (.int .i64 m)) := hm
  have HT : Hid (STabs w) := hT
  clear hm hT
  obtain ⟨t, c, ht⟩ := pair_of (escR a0.data.toList)
  obtain ⟨u, d, hu⟩ := pair_of (unR a0.data.toList)
  have H1 : Hid (escR a0.data.toList = (t.data.toList, c)) := ht
  have H2 : Hid (unR a0.data.toList = (u.data.toList, d)) := hu
  clear ht hu
  go_enter Tryd.func3, Tryd.ntmps3
  go_wp2_with fail
  refine (escape_at a0 t c H1.out _).mono ?_
  rintro e w1 ⟨rfl, hw1⟩
  have HM1 : Hid (w1.cell? ⟨0, 0, none⟩ = some (.int .i64 m)) := cell_keep hw1 HM.out
  go_wp2_with fail
  refine (rescE_at a0 t c H1.out m _ (by omega) HM1.out).mono ?_
  rintro e w2 ⟨rfl, hb2⟩
  have hw2 := hw1.trans (hb2.mono hw1.size)
  clear hw1 hb2
  go_wp2_with fail
  refine (unesc_at a0 u d H2.out _ (HT.out.below hw2)).mono ?_
  rintro e w3 ⟨rfl, hb3⟩
  have hw3 := hw2.trans (hb3.mono hw2.size)
  clear hw2 hb3
  go_wp2_with fail
  refine (runE_any a0 _).mono ?_
  rintro e w4 ⟨rfl, hb4⟩
  have hw4 := hw3.trans (hb4.mono hw3.size)
  rw [sn2 H2.out]
  clear hw3 hb4
  go_wp2_with fail
  go_ret
  exact ⟨ret_bool (by simp), hw4⟩
end Go.Proofs.YtbmmlbphbllcoaaDoor

/-
  The walk through TargetNormals: it answers true and turns nothing that was there; the package variable that the library's search reads holds some number, and the listed variables of package strconv hold what their text lays.
-/
namespace Go.Proofs.YtbmmlbphbllcoaaDoor
open Go.RowKit

set_option maxHeartbeats 2000000 in
set_option maxRecDepth 100000 in
theorem walkTargetNormals (a0 : ByteArray) (w : World) (_z0 : a0.size ≤ 140737488351232) (hm : ∃ m, w.cell? ⟨0, 0, none⟩ = some (.int .i64 m)) (hT : STabs w) :
    Calls Tryd.prog 4 #[.string a0] w fun e w' => e = .returned (.bool true) ∧ Below w.heap.size w w' := by
  obtain ⟨m, hm⟩ := hm
  have HM : Hid (w.cell? ⟨0, 0, none⟩ = some (.int .i64 m)) := hm
  have HT : Hid (STabs w) := hT
  clear hm hT
  obtain ⟨t, c, ht⟩ := pair_of (nrmR a0.data.toList)
  have H1 : Hid (nrmR a0.data.toList = (t.data.toList, c)) := ht
  clear ht
  go_enter Tryd.func4, Tryd.ntmps4
  go_wp2_with fail
  refine (norm_at a0 t c H1.out m _ HT.out HM.out).mono ?_
  rintro e w1 ⟨rfl, hw1⟩
  have HM1 : Hid (w1.cell? ⟨0, 0, none⟩ = some (.int .i64 m)) := cell_keep hw1 HM.out
  go_wp2_with fail
  refine (rnorm_at a0 t c H1.out m _ HM1.out).mono ?_
  rintro e w2 ⟨rfl, hb2⟩
  have hw2 := hw1.trans (hb2.mono hw1.size)
  clear hw1 hb2
  go_wp2_with fail
  go_ret
  exact ⟨ret_bool (by simp), hw2⟩
end Go.Proofs.YtbmmlbphbllcoaaDoor

/-
  The walk through TargetBack: it answers true and turns nothing that was there; the listed variables of package strconv hold what their text lays.
-/
namespace Go.Proofs.YtbmmlbphbllcoaaDoor
open Go.RowKit

set_option maxHeartbeats 2000000 in
set_option maxRecDepth 100000 in
theorem walkTargetBack (a0 : ByteArray) (w : World) (_z0 : a0.size ≤ 140737488351232) (hT : STabs w) :
    Calls Tryd.prog 5 #[.string a0] w fun e w' => e = .returned (.bool true) ∧ Below w.heap.size w w' := by
  have HT : Hid (STabs w) := hT
  clear hT
  obtain ⟨t, c, ht⟩ := pair_of (escR a0.data.toList)
  have H1 : Hid (escR a0.data.toList = (t.data.toList, c)) := ht
  have HP : Hid (unR (⟨#[37]⟩ : ByteArray).data.toList = ((⟨#[]⟩ : ByteArray).data.toList, 3)) := rfl
  by_cases hl : 200 < (escS a0.data.toList).length
  · have he : escR a0.data.toList = ([], 2) := by unfold escR; rw [if_pos hl]
    rw [he] at ht
    obtain rfl := ba_nilr t (Prod.mk.inj ht).1.symm
    obtain rfl := (Prod.mk.inj ht).2
    clear ht he hl
    go_enter Tryd.func5, Tryd.ntmps5
    go_wp2_with fail
    refine (escape_at a0 ⟨#[]⟩ 2 H1.out _).mono ?_
    rintro e w1 ⟨rfl, hw1⟩
    go_wp2_with fail
    refine (unesc_at ⟨#[37]⟩ ⟨#[]⟩ 3 HP.out _ (HT.out.below hw1)).mono ?_
    rintro e w2 ⟨rfl, hb2⟩
    have hw2 := hw1.trans (hb2.mono hw1.size)
    clear hw1 hb2
    go_wp2_with fail
    go_ret
    exact ⟨ret_bool (by first | rfl | simp), hw2⟩
  · have he : escR a0.data.toList = (escS a0.data.toList, 0) := by unfold escR; rw [if_neg hl]
    rw [he] at ht
    have HB : Hid (unR t.data.toList = (a0.data.toList, 0)) := by
      have h1 := esc_back a0.data.toList (by rw [he])
      rw [he] at h1
      show _ = _
      rw [← (Prod.mk.inj ht).1]; exact h1
    obtain rfl := (Prod.mk.inj ht).2
    clear ht he hl
    go_enter Tryd.func5, Tryd.ntmps5
    go_wp2_with fail
    refine (escape_at a0 t 0 H1.out _).mono ?_
    rintro e w1 ⟨rfl, hw1⟩
    go_wp2_with fail
    refine (unesc_at ⟨#[37]⟩ ⟨#[]⟩ 3 HP.out _ (HT.out.below hw1)).mono ?_
    rintro e w2 ⟨rfl, hb2⟩
    have hw2 := hw1.trans (hb2.mono hw1.size)
    clear hw1 hb2
    go_wp2_with fail
    refine (unesc_at t a0 0 HB.out _ (HT.out.below hw2)).mono ?_
    rintro e w3 ⟨rfl, hb3⟩
    have hw3 := hw2.trans (hb3.mono hw2.size)
    clear hw2 hb3
    go_wp2_with fail
    go_ret
    exact ⟨ret_bool (by simp), hw3⟩
end Go.Proofs.YtbmmlbphbllcoaaDoor

/-
  The walk through TargetOnce: it answers true and turns nothing that was there; the package variable that the library's search reads holds some number, and the listed variables of package strconv hold what their text lays.
-/
namespace Go.Proofs.YtbmmlbphbllcoaaDoor
open Go.RowKit

set_option maxHeartbeats 2000000 in
set_option maxRecDepth 100000 in
theorem walkTargetOnce (a0 : ByteArray) (w : World) (_z0 : a0.size ≤ 140737488351232) (hm : ∃ m, w.cell? ⟨0, 0, none⟩ = some (.int .i64 m)) (hT : STabs w) :
    Calls Tryd.prog 6 #[.string a0] w fun e w' => e = .returned (.bool true) ∧ Below w.heap.size w w' := by
  obtain ⟨m, hm⟩ := hm
  have HM : Hid (w.cell? ⟨0, 0, none⟩ = some (.int .i64 m)) := hm
  have HT : Hid (STabs w) := hT
  clear hm hT
  obtain ⟨t, c, ht⟩ := pair_of (nrmR a0.data.toList)
  have H1 : Hid (nrmR a0.data.toList = (t.data.toList, c)) := ht
  have HP : Hid (nrmR (⟨#[]⟩ : ByteArray).data.toList = ((⟨#[]⟩ : ByteArray).data.toList, 3)) := rfl
  by_cases hc : c = 0
  · subst hc
    obtain ⟨h1, h2, h3⟩ := nrm_once _ _ ht
    rw [size_list, size_list] at h3
    have H2 : Hid (nrmR t.data.toList = (t.data.toList, 0)) := h1
    have H3 : Hid (Lib.hasPrefix t.data.toList [47] = true) := by show _ = _; rw [prefix_head]; exact decide_eq_true h2
    have h3i : (t.size : Int) ≤ (a0.size : Int) := by omega
    clear ht h1 h2 h3
    go_enter Tryd.func6, Tryd.ntmps6
    go_wp2_with fail
    refine (norm_at a0 t 0 H1.out m _ HT.out HM.out).mono ?_
    rintro e w1 ⟨rfl, hw1⟩
    have HM1 : Hid (w1.cell? ⟨0, 0, none⟩ = some (.int .i64 m)) := cell_keep hw1 HM.out
    go_wp2_with fail
    refine (norm_at ⟨#[]⟩ ⟨#[]⟩ 3 HP.out m _ (HT.out.below hw1) HM1.out).mono ?_
    rintro e w2 ⟨rfl, hb2⟩
    have hw2 := hw1.trans (hb2.mono hw1.size)
    have HM2 : Hid (w2.cell? ⟨0, 0, none⟩ = some (.int .i64 m)) := cell_keep hw2 HM.out
    clear hw1 hb2
    go_wp2_with fail
    refine (norm_at t t 0 H2.out m _ (HT.out.below hw2) HM2.out).mono ?_
    rintro e w3 ⟨rfl, hb3⟩
    have hw3 := hw2.trans (hb3.mono hw2.size)
    clear hw2 hb3
    go_wp2_with fail
    refine (Tryd.strings_HasPrefix t ⟨#[47]⟩ _).mono ?_
    rintro e w4 ⟨rfl, rfl⟩
    rw [show (⟨#[47]⟩ : ByteArray).data.toList = [47] from rfl, H3.out]
    go_wp2_with fail
    go_ret
    exact ⟨ret_bool (by first | (simp; done) | (simp; omega)), hw3⟩
  · obtain rfl := ba_nilr t (nrm_bad _ _ _ ht hc)
    have hcb : (c == 0) = false := by simp [hc]
    clear ht
    go_enter Tryd.func6, Tryd.ntmps6
    go_wp2_with fail
    refine (norm_at a0 ⟨#[]⟩ c H1.out m _ HT.out HM.out).mono ?_
    rintro e w1 ⟨rfl, hw1⟩
    have HM1 : Hid (w1.cell? ⟨0, 0, none⟩ = some (.int .i64 m)) := cell_keep hw1 HM.out
    go_wp2_with fail
    refine (norm_at ⟨#[]⟩ ⟨#[]⟩ 3 HP.out m _ (HT.out.below hw1) HM1.out).mono ?_
    rintro e w2 ⟨rfl, hb2⟩
    have hw2 := hw1.trans (hb2.mono hw1.size)
    clear hw1 hb2
    go_wp2_with fail
    go_ret
    exact ⟨ret_bool (by first | rfl | simp), hw2⟩
end Go.Proofs.YtbmmlbphbllcoaaDoor

/-
  The walk through TargetDots: it answers true and turns nothing that was there; the package variable that the library's search reads holds some number, and the listed variables of package strconv hold what their text lays.
-/
namespace Go.Proofs.YtbmmlbphbllcoaaDoor
open Go.RowKit

theorem dots_of (s t : List UInt8) (h : nrmR s = (t, 0)) : ∃ (xs : List Step) (p1 x0 y0 : List UInt8) (fl : Bool), Lib.cut t [63] = (prT (joinS xs), y0, fl) ∧ Lib.cut s [63] = (p1, x0, fl) ∧ unR x0 = unR y0 ∧ (∀ x ∈ xs.map prT, ∀ c ∈ x, c ≠ 47) ∧
    (∀ x ∈ xs.map prT, (x == [46]) = false ∧ (x == [46, 46]) = false) ∧ (unR s).2 = 0 ∧ (unR t).2 = 0 ∧ (unR t).1.length ≤ (unR s).1.length ∧ s.length ≤ 200 ∧ t.length ≤ 200 := by
  have hlt := (nrm_once s t h).2.2
  have hsl : s.length ≤ 200 := by
    rcases nrm_cases s with ⟨c, hc, he⟩ | ⟨_, _, _, hl, _⟩
    · rw [h] at he; exact absurd (Prod.mk.inj he).2.symm hc
    · exact hl
  obtain ⟨xs, q, h1, h2, h3, h4, h5, h6, h7, h8⟩ := nrm_bytes s t h
  have g2 : ∀ x ∈ xs.map prT, ∀ c ∈ x, c ≠ 47 := by
    intro x hx
    obtain ⟨y, hy, rfl⟩ := List.mem_map.1 hx
    exact h2 y hy
  have g3 : ∀ x ∈ xs.map prT, (x == [46]) = false ∧ (x == [46, 46]) = false := by
    intro x hx
    obtain ⟨y, hy, rfl⟩ := List.mem_map.1 hx
    exact ⟨beq_eq_false_iff_ne.2 (h3 y hy).1, beq_eq_false_iff_ne.2 (h3 y hy).2⟩
  rcases h5 with ⟨rfl, hno⟩ | ⟨s1, s2, q2, rfl, hs1, rfl, hq2, hl2⟩
  · refine ⟨xs, s, [], [], false, ?_, cutd_no 63 s hno, rfl, g2, g3, h6, h7, h8, hsl, by omega⟩
    rw [h1, prT_nil, List.append_nil, cutd_no 63 _ h4]
  · refine ⟨xs, s1, s2, prT (q2.map can), true, ?_, cutd_yes 63 s1 s2 hs1, (quest_same s2 q2 hq2 hl2).symm, g2, g3, h6, h7, h8, hsl, by omega⟩
    rw [h1, prT_cons]
    show Lib.cut (prT (joinS xs) ++ 63 :: prT (q2.map can)) [63] = _
    exact cutd_yes 63 _ _ h4
theorem cutq_at (s p x : ByteArray) (fl : Bool) (h : Lib.cut s.data.toList [63] = (p.data.toList, x.data.toList, fl)) (hs : s.size ≤ 200) (m : Int) (w : World) (hm : w.cell? ⟨0, 0, none⟩ = some (.int .i64 m)) :
    Calls Tryd.prog 18 #[.string s, .string ⟨#[63]⟩] w fun e w' => e = .returned (.tuple #[.string p, .string x, .bool fl]) ∧ Below w.heap.size w w' := by
  refine (Tryd.strings_Cut s ⟨#[63]⟩ m w (by omega) hm).mono ?_
  rintro e w' ⟨rfl, n, rfl⟩
  rw [show (⟨#[63]⟩ : ByteArray).data.toList = [63] from rfl, h]
  exact ⟨rfl, drewN_below _ _ _⟩
set_option maxHeartbeats 1000000 in
set_option maxRecDepth 100000 in
theorem path_at (s p x : ByteArray) (fl : Bool) (h : Lib.cut s.data.toList [63] = (p.data.toList, x.data.toList, fl)) (hs : s.size ≤ 200) (m : Int) (w : World) (hm : w.cell? ⟨0, 0, none⟩ = some (.int .i64 m)) :
    Calls Tryd.prog 17 #[.string s] w fun e w' => e = .returned (.string p) ∧ Below w.heap.size w w' := by
  have HC := cutq_at s p x fl h hs m w hm
  clear h hs hm
  go_enter Tryd.func17, Tryd.ntmps17
  go_wp2_with fail
  refine HC.mono ?_
  rintro e w1 ⟨rfl, hb⟩
  go_wp2_with fail
  go_ret
  exact ⟨rfl, hb⟩
set_option maxHeartbeats 4000000 in
set_option maxRecDepth 100000 in
theorem walkTargetDots (a0 : ByteArray) (w : World) (_z0 : a0.size ≤ 140737488351232) (hm : ∃ m, w.cell? ⟨0, 0, none⟩ = some (.int .i64 m)) (hT : STabs w) :
    Calls Tryd.prog 7 #[.string a0] w fun e w' => e = .returned (.bool true) ∧ Below w.heap.size w w' := by
  obtain ⟨m, hm⟩ := hm
  have HM : Hid (w.cell? ⟨0, 0, none⟩ = some (.int .i64 m)) := hm
  have HT : Hid (STabs w) := hT
  clear hm hT
  obtain ⟨t, c, ht⟩ := pair_of (nrmR a0.data.toList)
  have H1 : Hid (nrmR a0.data.toList = (t.data.toList, c)) := ht
  have HP : Hid (nrmR (⟨#[]⟩ : ByteArray).data.toList = ((⟨#[]⟩ : ByteArray).data.toList, 3)) := rfl
  by_cases hc : c = 0
  · subst hc
    obtain ⟨xs, p1, x0, y0, fl, g1, g2, g3, g4, g5, g6, g7, g8, g9, g10⟩ := dots_of _ _ ht
    obtain ⟨p, hp⟩ := ba_ofl (prT (joinS xs))
    obtain ⟨q, hq⟩ := ba_ofl p1
    obtain ⟨x, hx⟩ := ba_ofl x0
    obtain ⟨y, hy⟩ := ba_ofl y0
    obtain ⟨a, ca, ha⟩ := pair_of (unR a0.data.toList)
    obtain ⟨b, cb, hb⟩ := pair_of (unR t.data.toList)
    obtain ⟨z, cz, hz⟩ := pair_of (unR x.data.toList)
    rw [← hp, ← hy] at g1
    rw [← hq, ← hx] at g2
    rw [← hx, ← hy] at g3
    have hz' := hz
    rw [g3] at hz'
    rw [ha] at g6 g8
    rw [hb] at g7 g8
    obtain rfl : cb = 0 := g7
    rw [size_list] at g9 g10
    have g8' : b.data.toList.length ≤ a.data.toList.length := g8
    rw [size_list, size_list] at g8'
    have hbi : (b.size : Int) ≤ (a.size : Int) := by omega
    have HC1 : Hid (Lib.cut t.data.toList [63] = (p.data.toList, y.data.toList, fl)) := g1
    have HC2 : Hid (Lib.cut a0.data.toList [63] = (q.data.toList, x.data.toList, fl)) := g2
    have HA : Hid (unR a0.data.toList = (a.data.toList, ca)) := ha
    have HB : Hid (unR t.data.toList = (b.data.toList, 0)) := hb
    have HX : Hid (unR x.data.toList = (z.data.toList, cz)) := hz
    have HY : Hid (unR y.data.toList = (z.data.toList, cz)) := hz'
    have HN : Hid (∀ x ∈ xs.map prT, ∀ c ∈ x, c ≠ 47) := g4
    have HD : Hid (∀ x ∈ xs.map prT, (x == [46]) = false ∧ (x == [46, 46]) = false) := g5
    have HPW : Hid (p.data.toList = wordsB 47 (xs.map prT)) := by show _ = _; rw [hp, wordsB_join]
    have hps : p.size ≤ 200 := by
      have h1 := congrArg Prod.fst g1
      have h2 : (Lib.cut t.data.toList [63]).1.length ≤ t.data.toList.length := by
        unfold Lib.cut; split
        · show (t.data.toList.take _).length ≤ _
          rw [List.length_take]; omega
        · exact Nat.le_refl _
      rw [h1, size_list, size_list] at h2; omega
    clear ht g1 g2 g3 g4 g5 g6 g8 g8' hp hq hx hy ha hb hz hz'
    go_enter Tryd.func7, Tryd.ntmps7
    go_wp2_with fail
    refine (norm_at a0 t 0 H1.out m _ HT.out HM.out).mono ?_
    rintro e w1 ⟨rfl, hw1⟩
    have HM1 : Hid (w1.cell? ⟨0, 0, none⟩ = some (.int .i64 m)) := cell_keep hw1 HM.out
    go_wp2_with fail
    refine (norm_at ⟨#[]⟩ ⟨#[]⟩ 3 HP.out m _ (HT.out.below hw1) HM1.out).mono ?_
    rintro e w2 ⟨rfl, hb2⟩
    have hw2 := hw1.trans (hb2.mono hw1.size)
    have HM2 : Hid (w2.cell? ⟨0, 0, none⟩ = some (.int .i64 m)) := cell_keep hw2 HM.out
    clear hw1 hb2
    go_wp2_with fail
    refine (path_at t p y fl HC1.out g10 m _ HM2.out).mono ?_
    rintro e w3 ⟨rfl, hb3⟩
    have hw3 := hw2.trans (hb3.mono hw2.size)
    have HM3 : Hid (w3.cell? ⟨0, 0, none⟩ = some (.int .i64 m)) := cell_keep hw3 HM.out
    clear hw2 hb3
    go_wp2_with fail
    refine (rsplit_at p (xs.map prT) HPW.out HN.out m _ HM3.out (by omega)).mono ?_
    rintro e w4 ⟨v4, rfl, hs4, hb4⟩
    have hw4 := hw3.trans (hb4.mono hw3.size)
    have HD0 : Hid (∀ x ∈ [] :: xs.map prT, (x == [46]) = false ∧ (x == [46, 46]) = false) := by
      intro x hx
      rcases List.mem_cons.1 hx with rfl | hx
      · exact ⟨rfl, rfl⟩
      · exact HD.out x hx
    obtain ⟨ws, hws⟩ : ∃ ws, ws = [] :: xs.map prT := ⟨_, rfl⟩
    rw [← hws] at hs4 HD0
    obtain ⟨g, off, cap, rfl, hcap, hcm, hg, hce⟩ := hs4
    have HCE : Hid (∀ (k : Nat) (h : k < ws.length), w4.cell? ⟨g, off + k, none⟩ = some (.string ⟨ws[k].toArray⟩)) := hce
    unfold maxLen at hcm
    clear hw3 hb4 hws hce
    go_wp2_with fail
    go_loopw [38] (fun i wr => ∃ k : Nat, k ≤ ws.length ∧ i = .int .i64 k ∧ Below w4.heap.size w4 wr) (fun i _ => ws.length - (intOf i).toNat)
    case atStart => exact ⟨0, Nat.zero_le _, rfl, Below.refl _ _⟩
    case round =>
      obtain ⟨k, hk, rfl, hwr⟩ := hrel
      by_cases hlt : k < ws.length
      · have hcl := (hwr.cell (p := ⟨g, off + k, none⟩) hg).trans (HCE.out k hlt)
        obtain ⟨d1, d2⟩ := HD0.out _ (List.getElem_mem hlt)
        obtain ⟨u, hu⟩ : ∃ u : ByteArray, u = ⟨(ws[k]).toArray⟩ := ⟨_, rfl⟩
        have hd1 : (u.toList == [46]) = false := by rw [ByteArray.toList_eq, hu]; exact d1
        have hd2 : (u.toList == [46, 46]) = false := by rw [ByteArray.toList_eq, hu]; exact d2
        rw [← hu] at hcl
        have hki : (k : Int) < (ws.length : Int) := by omega
        have hgr : g < wr.heap.size := Nat.lt_of_lt_of_le hg hwr.size
        clear hu d1 d2
        go_wp2_with fail
        go_roundw
        case rel => exact ⟨k + 1, by omega, by go_num, hwr⟩
        case measure => simp [intOf]; omega
      · obtain rfl : k = ws.length := by omega
        have hw : Below w.heap.size w wr := hw4.trans (hwr.mono hw4.size)
        clear hwr
        go_wp2_with fail
        refine (unesc_at a0 a ca HA.out _ (HT.out.below hw)).mono ?_
        rintro e w5 ⟨rfl, hb5⟩
        have hw5 := hw.trans (hb5.mono hw.size)
        clear hb5
        go_wp2_with fail
        refine (unesc_at t b 0 HB.out _ (HT.out.below hw5)).mono ?_
        rintro e w6 ⟨rfl, hb6⟩
        have hw6 := hw5.trans (hb6.mono hw5.size)
        have HM6 : Hid (w6.cell? ⟨0, 0, none⟩ = some (.int .i64 m)) := cell_keep hw6 HM.out
        clear hb6 hw5
        go_wp2_with fail
        refine (cutq_at a0 q x fl HC2.out g9 m _ HM6.out).mono ?_
        rintro e w7 ⟨rfl, hb7⟩
        have hw7 := hw6.trans (hb7.mono hw6.size)
        have HM7 : Hid (w7.cell? ⟨0, 0, none⟩ = some (.int .i64 m)) := cell_keep hw7 HM.out
        clear hb7 hw6
        go_wp2_with fail
        refine (cutq_at t p y fl HC1.out g10 m _ HM7.out).mono ?_
        rintro e w8 ⟨rfl, hb8⟩
        have hw8 := hw7.trans (hb8.mono hw7.size)
        clear hb8 hw7
        go_wp2_with fail
        refine (unesc_at x z cz HX.out _ (HT.out.below hw8)).mono ?_
        rintro e w9 ⟨rfl, hb9⟩
        have hw9 := hw8.trans (hb9.mono hw8.size)
        clear hb9 hw8
        go_wp2_with fail
        refine (unesc_at y z cz HY.out _ (HT.out.below hw9)).mono ?_
        rintro e w10 ⟨rfl, hb10⟩
        have hw10 := hw9.trans (hb10.mono hw9.size)
        clear hb10 hw9
        go_wp2_with fail
        go_ret
        exact ⟨ret_bool (by first | rfl | (simp; done) | (simp; omega)), hw10⟩
  · obtain rfl := ba_nilr t (nrm_bad _ _ _ ht hc)
    have hcb : (c == 0) = false := by simp [hc]
    clear ht
    go_enter Tryd.func7, Tryd.ntmps7
    go_wp2_with fail
    refine (norm_at a0 ⟨#[]⟩ c H1.out m _ HT.out HM.out).mono ?_
    rintro e w1 ⟨rfl, hw1⟩
    have HM1 : Hid (w1.cell? ⟨0, 0, none⟩ = some (.int .i64 m)) := cell_keep hw1 HM.out
    go_wp2_with fail
    refine (norm_at ⟨#[]⟩ ⟨#[]⟩ 3 HP.out m _ (HT.out.below hw1) HM1.out).mono ?_
    rintro e w2 ⟨rfl, hb2⟩
    have hw2 := hw1.trans (hb2.mono hw1.size)
    clear hw1 hb2
    go_wp2_with fail
    go_ret
    exact ⟨ret_bool (by first | rfl | simp), hw2⟩
end Go.Proofs.YtbmmlbphbllcoaaDoor

/-
  The walk through TargetSame: it answers true and turns nothing that was there; the package variable that the library's search reads holds some number, and the listed variables of package strconv hold what their text lays.
-/
namespace Go.Proofs.YtbmmlbphbllcoaaDoor
open Go.RowKit

def sgn (i : Nat) : UInt8 := [97, 98, 122, 65, 90, 48, 57, 45, 95, 126].getD i 0
theorem sgn_ok (i : Nat) (h : i < 10) : freeB (sgn i) = true ∧ unT [sgn i] = some [(sgn i, false)] ∧ unT (escB (sgn i)) = some [(sgn i, true)] ∧ unT (Lib.toLowerA (escB (sgn i))) = some [(sgn i, true)] ∧
    (∀ c ∈ [sgn i], vis c = true) ∧ (∀ c ∈ escB (sgn i), vis c = true) ∧ (∀ c ∈ Lib.toLowerA (escB (sgn i)), vis c = true) ∧ (∀ c ∈ escB (sgn i), c.toNat < 128) ∧ (Lib.toLowerA (escB (sgn i))).length = 3 := by
  have : ∀ i : Fin 10, freeB (sgn i) = true ∧ unT [sgn i] = some [(sgn i, false)] ∧ unT (escB (sgn i)) = some [(sgn i, true)] ∧ unT (Lib.toLowerA (escB (sgn i))) = some [(sgn i, true)] ∧
    (∀ c ∈ [sgn i], vis c = true) ∧ (∀ c ∈ escB (sgn i), vis c = true) ∧ (∀ c ∈ Lib.toLowerA (escB (sgn i)), vis c = true) ∧ (∀ c ∈ escB (sgn i), c.toNat < 128) ∧ (Lib.toLowerA (escB (sgn i))).length = 3 := by decide +kernel
  exact this ⟨i, h⟩
theorem sgn_slice (k : Nat) (h : k < 10) : ∃ q : ByteArray, (∀ w, (Instr.slice 9 (.string ⟨#[97, 98, 122, 65, 90, 48, 57, 45, 95, 126]⟩) (some (.int .u8 (k : Int))) none none).run Tryd.prog w = .ok (.string q) w) ∧
    (∀ w, (Instr.slice 9 (.string q) none (some (.int .i64 1)) none).run Tryd.prog w = .ok (.string ⟨#[sgn k]⟩) w) := by
  obtain ⟨q, hq⟩ : ∃ q : ByteArray, q = (⟨#[97, 98, 122, 65, 90, 48, 57, 45, 95, 126]⟩ : ByteArray).extract k 10 := ⟨_, rfl⟩
  have hqs : q.size = 10 - k := by rw [hq, ByteArray.size_extract]; show min 10 10 - k = _; omega
  obtain ⟨p, hp, hps, hr2⟩ := slice_to q 1 (by omega)
  refine ⟨q, fun w => ?_, fun w => ?_⟩
  · rw [run_slice_string_l w 9 _ Tryd.underlying9 .u8 (k : Int) (by omega) (by show (k : Int) ≤ 10; omega), hq]; rfl
  · have hpe : p = ⟨#[sgn k]⟩ := by
      apply ByteArray.ext; apply Array.ext'
      rw [hp, hq, Lib.extract_data]
      have : ∀ k : Fin 10, (((⟨#[97, 98, 122, 65, 90, 48, 57, 45, 95, 126]⟩ : ByteArray).data.toList.drop k.1).take (10 - k.1)).take 1 = [sgn k.1] := by decide
      exact this ⟨k, h⟩
    rw [← hpe]
    have := hr2 w
    simpa using this
theorem dig_slice (k : Nat) (h : k < 16) : ∃ q : ByteArray, (∀ w, (Instr.slice 9 (.string ⟨#[48, 49, 50, 51, 52, 53, 54, 55, 56, 57, 65, 66, 67, 68, 69, 70]⟩) (some (.int .u8 (k : Int))) none none).run Tryd.prog w = .ok (.string q) w) ∧
    (∀ w, (Instr.slice 9 (.string q) none (some (.int .i64 1)) none).run Tryd.prog w = .ok (.string ⟨#[hexU k]⟩) w) := by
  obtain ⟨q, hq⟩ : ∃ q : ByteArray, q = (⟨#[48, 49, 50, 51, 52, 53, 54, 55, 56, 57, 65, 66, 67, 68, 69, 70]⟩ : ByteArray).extract k 16 := ⟨_, rfl⟩
  have hqs : q.size = 16 - k := by rw [hq, ByteArray.size_extract]; show min 16 16 - k = _; omega
  obtain ⟨p, hp, hps, hr2⟩ := slice_to q 1 (by omega)
  refine ⟨q, fun w => ?_, fun w => ?_⟩
  · rw [run_slice_string_l w 9 _ Tryd.underlying9 .u8 (k : Int) (by omega) (by show (k : Int) ≤ 16; omega), hq]; rfl
  · have hpe : p = ⟨#[hexU k]⟩ := by
      apply ByteArray.ext; apply Array.ext'
      rw [hp, hq, Lib.extract_data]
      have : ∀ k : Fin 16, (((⟨#[48, 49, 50, 51, 52, 53, 54, 55, 56, 57, 65, 66, 67, 68, 69, 70]⟩ : ByteArray).data.toList.drop k.1).take (16 - k.1)).take 1 = [hexU k.1] := by decide
      exact this ⟨k, h⟩
    rw [← hpe]
    have := hr2 w
    simpa using this
theorem ba_app (a b : ByteArray) : (a ++ b).data.toList = a.data.toList ++ b.data.toList := by rw [ByteArray.data_append, Array.toList_append]
theorem cont_one (s : ByteArray) (w : World) :
    Calls Tryd.prog 19 #[.string s, .string ⟨#[63]⟩] w fun e w' => e = .returned (.bool (s.data.toList.contains 63)) ∧ w' = w := by
  refine (Tryd.strings_Contains_one s 63 w).mono ?_
  rintro e w' ⟨rfl, rfl⟩
  refine ⟨ret_bool ?_, rfl⟩
  rw [← Lib.index_one]
  cases hc : s.data.toList.contains 63
  · have : ∀ b ∈ s.data.toList, b ≠ 63 := fun b hb e => by
      subst e; rw [List.contains_iff_mem.2 hb] at hc; cases hc
    rw [index_none_byte 63 _ this]; rfl
  · obtain ⟨p, q, hs, hp⟩ := List.eq_append_cons_of_mem (List.contains_iff_mem.1 hc)
    rw [hs, index_byte_at 63 p q (fun b hb e => hp (e ▸ hb))]
    exact decide_eq_true (by omega)
set_option maxHeartbeats 4000000 in
set_option maxRecDepth 100000 in
theorem walkTargetSame (a0 a1 : ByteArray) (a2 : Int) (w : World) (z0 : a0.size ≤ 140737488351232) (z1 : a1.size ≤ 140737488351232) (z2 : (Lit.int .u8 a2).wf = true) (hm : ∃ m, w.cell? ⟨0, 0, none⟩ = some (.int .i64 m)) (hT : STabs w) :
    Calls Tryd.prog 8 #[.string a0, .string a1, .int .u8 a2] w fun e w' => e = .returned (.bool true) ∧ Below w.heap.size w w' := by
  have mixed : Tryd.prog.follows Departure.mixedOrders = true := by kernel_rfl
  obtain ⟨m, hm⟩ := hm
  have HM : Hid (w.cell? ⟨0, 0, none⟩ = some (.int .i64 m)) := hm
  have HT : Hid (STabs w) := hT
  have hz2 : 0 ≤ a2 ∧ a2 < 256 := by
    have h := (Lit.wf_int_iff _ _).1 z2
    rw [show IntKind.u8.min = 0 from rfl, show IntKind.u8.max = 255 from rfl] at h
    omega
  clear hm hT z2
  obtain ⟨h20, h21⟩ := hz2
  obtain ⟨a, hav⟩ : ∃ a : ByteArray, a = ⟨#[47]⟩ ++ a0 := ⟨_, rfl⟩
  obtain ⟨b, hbv⟩ : ∃ b : ByteArray, b = ⟨#[47]⟩ ++ a1 := ⟨_, rfl⟩
  obtain ⟨s, hsv⟩ : ∃ s : ByteArray, s = a ++ b := ⟨_, rfl⟩
  have hal : a.data.toList = 47 :: a0.data.toList := by rw [hav, ba_app]; rfl
  have hbl : b.data.toList = 47 :: a1.data.toList := by rw [hbv, ba_app]; rfl
  have hsl : s.data.toList = 47 :: a0.data.toList ++ 47 :: a1.data.toList := by rw [hsv, ba_app, hal, hbl]
  have has : a.size = a0.size + 1 := by rw [← size_list, hal]; simp
  have hbs : b.size = a1.size + 1 := by rw [← size_list, hbl]; simp
  have hss : s.size = a0.size + a1.size + 2 := by rw [← size_list, hsl]; simp; omega
  obtain ⟨x, c, hx⟩ := pair_of (nrmR s.data.toList)
  have H1 : Hid (nrmR s.data.toList = (x.data.toList, c)) := hx
  have HP : Hid (nrmR (⟨#[]⟩ : ByteArray).data.toList = ((⟨#[]⟩ : ByteArray).data.toList, 3)) := rfl
  have cat1 := hav.symm
  have cat2 := hbv.symm
  have cat3 := hsv.symm
  clear hav hbv hsv
  by_cases hc : c = 0
  · subst hc
    by_cases hq : a.data.toList.contains 63 = true
    · have HQ : Hid (a.data.toList.contains 63 = true) := hq
      clear hq hx
      go_enter Tryd.func8, Tryd.ntmps8
      go_wp2_with fail
      refine (norm_at ⟨#[]⟩ ⟨#[]⟩ 3 HP.out m _ HT.out HM.out).mono ?_
      rintro e w1 ⟨rfl, hw1⟩
      have HM1 : Hid (w1.cell? ⟨0, 0, none⟩ = some (.int .i64 m)) := cell_keep hw1 HM.out
      go_wp2_with fail
      refine (norm_at s x 0 H1.out m _ (HT.out.below hw1) HM1.out).mono ?_
      rintro e w2 ⟨rfl, hb2⟩
      have hw2 := hw1.trans (hb2.mono hw1.size)
      clear hw1 hb2
      go_wp2_with fail
      refine (cont_one a _).mono ?_
      rintro e w3 ⟨rfl, rfl⟩
      rw [HQ.out]
      go_wp2_with fail
      go_ret
      exact ⟨ret_bool (by first | rfl | simp), hw2⟩
    · have HQ : Hid (a.data.toList.contains 63 = false) := by show _ = _; simpa using hq
      by_cases hl : 180 < s.size
      · have hli : (180 : Int) < (s.size : Int) := by omega
        clear hq hx
        go_enter Tryd.func8, Tryd.ntmps8
        go_wp2_with fail
        refine (norm_at ⟨#[]⟩ ⟨#[]⟩ 3 HP.out m _ HT.out HM.out).mono ?_
        rintro e w1 ⟨rfl, hw1⟩
        have HM1 : Hid (w1.cell? ⟨0, 0, none⟩ = some (.int .i64 m)) := cell_keep hw1 HM.out
        go_wp2_with fail
        refine (norm_at s x 0 H1.out m _ (HT.out.below hw1) HM1.out).mono ?_
        rintro e w2 ⟨rfl, hb2⟩
        have hw2 := hw1.trans (hb2.mono hw1.size)
        clear hw1 hb2
        go_wp2_with fail
        refine (cont_one a _).mono ?_
        rintro e w3 ⟨rfl, rfl⟩
        rw [HQ.out]
        go_wp2_with fail
        go_ret
        exact ⟨ret_bool (by first | rfl | simp), hw2⟩
      · have hli : ¬ (180 : Int) < (s.size : Int) := by omega
        have hnq : ∀ c ∈ 47 :: a0.data.toList, c ≠ 63 := by
          rw [← hal]
          intro c hc e; subst e; exact hq (List.contains_iff_mem.2 hc)
        have hl180 : (47 :: a0.data.toList ++ 47 :: a1.data.toList).length ≤ 180 := by rw [← hsl, size_list]; omega
        have h0 : (nrmR (47 :: a0.data.toList ++ 47 :: a1.data.toList)).2 = 0 := by rw [← hsl, hx]
        have n1 := nrm_back _ _ h0 hnq hl180
        have n2 := nrm_stay _ _ h0 hnq hl180
        obtain ⟨p1, hp1⟩ : ∃ p : ByteArray, p = a ++ ⟨#[47, 120, 47, 46, 46]⟩ := ⟨_, rfl⟩
        obtain ⟨p2, hp2⟩ : ∃ p : ByteArray, p = p1 ++ b := ⟨_, rfl⟩
        obtain ⟨q1, hq1⟩ : ∃ p : ByteArray, p = a ++ ⟨#[47, 46]⟩ := ⟨_, rfl⟩
        obtain ⟨q2, hq2⟩ : ∃ p : ByteArray, p = q1 ++ b := ⟨_, rfl⟩
        have H2 : Hid (nrmR p2.data.toList = (x.data.toList, 0)) := by
          show _ = _
          rw [hp2, ba_app, hp1, ba_app, hal, hbl]
          exact (n1.trans (by rw [← hsl])).trans hx
        have H3 : Hid (nrmR q2.data.toList = (x.data.toList, 0)) := by
          show _ = _
          rw [hq2, ba_app, hq1, ba_app, hal, hbl]
          exact (n2.trans (by rw [← hsl])).trans hx
        have hp1s : p1.size = a.size + 5 := by rw [← size_list, hp1, ba_app, List.length_append, size_list]; rfl
        have hq1s : q1.size = a.size + 2 := by rw [← size_list, hq1, ba_app, List.length_append, size_list]; rfl
        obtain ⟨k, hk⟩ : ∃ k : Nat, (k : Int) = a2 % 10 := ⟨(a2 % 10).toNat, by omega⟩
        have hk10 : k < 10 := by omega
        obtain ⟨g1, g2, g3, g4, g5, g6, g7, g8, g9⟩ := sgn_ok k hk10
        obtain ⟨sq, hs1, hs2⟩ := sgn_slice k hk10
        rw [hk] at hs1
        obtain ⟨g, hg⟩ : ∃ g, g = sgn k := ⟨_, rfl⟩
        rw [← hg] at hs2 g1 g2 g3 g4 g5 g6 g7 g8 g9
        have hsx : (nrmR s.data.toList).2 = 0 := by rw [hx]
        obtain ⟨m1, m2⟩ := nrm_sign s.data.toList [g] (escB g) g g1 g2 g3 g5 g6 hsx (by rw [size_list]; show _ + 1 ≤ _; omega) (by rw [size_list]; show _ + 3 ≤ _; omega)
        obtain ⟨m3, _⟩ := nrm_sign s.data.toList [g] (Lib.toLowerA (escB g)) g g1 g2 g4 g5 g7 hsx (by rw [size_list]; show _ + 1 ≤ _; omega) (by rw [size_list, g9]; omega)
        obtain ⟨up, hup⟩ : ∃ q : ByteArray, q = ⟨(escB g).toArray⟩ := ⟨_, rfl⟩
        obtain ⟨lo, hlo⟩ : ∃ q : ByteArray, q = ⟨(Lib.toLowerA (escB g)).toArray⟩ := ⟨_, rfl⟩
        obtain ⟨r1, hr1⟩ : ∃ q : ByteArray, q = s ++ ⟨#[g]⟩ := ⟨_, rfl⟩
        obtain ⟨r2, hr2⟩ : ∃ q : ByteArray, q = s ++ up := ⟨_, rfl⟩
        obtain ⟨r3, hr3⟩ : ∃ q : ByteArray, q = s ++ lo := ⟨_, rfl⟩
        obtain ⟨t, ct, ht⟩ := pair_of (nrmR (s.data.toList ++ [g]))
        rw [ht] at m2
        obtain rfl : ct = 0 := m2
        have H4 : Hid (nrmR r1.data.toList = (t.data.toList, 0)) := by show _ = _; rw [hr1, ba_app]; exact ht
        have H5 : Hid (nrmR r2.data.toList = (t.data.toList, 0)) := by show _ = _; rw [hr2, ba_app, hup]; exact m1.trans ht
        have H6 : Hid (nrmR r3.data.toList = (t.data.toList, 0)) := by show _ = _; rw [hr3, ba_app, hlo]; exact m3.trans ht
        have HE : Hid (escR (⟨#[33]⟩ : ByteArray).data.toList = ((⟨#[37, 50, 49]⟩ : ByteArray).data.toList, 0)) := rfl
        have cat4 := hp1.symm
        have cat5 := hp2.symm
        have cat6 := hq1.symm
        have cat7 := hq2.symm
        have cat8 := hr1.symm
        have HUP : Hid (up = ⟨(escB g).toArray⟩) := hup
        have HLO : Hid (lo = ⟨(Lib.toLowerA (escB g)).toArray⟩) := hlo
        have HR2 : Hid (s ++ up = r2) := hr2.symm
        have HR3 : Hid (s ++ lo = r3) := hr3.symm
        have H8 : Hid (∀ c ∈ escB g, c.toNat < 128) := g8
        obtain ⟨d1, hd1, hd1'⟩ := dig_slice (g.toNat / 16) (by have := g.toNat_lt; omega)
        obtain ⟨d2, hd2, hd2'⟩ := dig_slice (g.toNat % 16) (by omega)
        have e1 : ((g.toNat / 16 : Nat) : Int) = (g.toNat : Int) / 16 := by simp
        have e2 : ((g.toNat % 16 : Nat) : Int) = (g.toNat : Int) % 16 := by simp
        obtain ⟨n, hn⟩ : ∃ n : Int, n = (g.toNat : Int) := ⟨_, rfl⟩
        rw [e1, ← hn] at hd1
        rw [e2, ← hn] at hd2
        have hn0 : 0 ≤ n := by omega
        have hn1 : n < 256 := by have := g.toNat_lt; omega
        have hz : (((⟨#[g]⟩ : ByteArray)[0]'(by show 0 < 1; omega)).toNat : Int) = n := hn.symm
        obtain ⟨o1, ho1⟩ : ∃ o : ByteArray, o = ⟨#[37]⟩ ++ ⟨#[hexU (g.toNat / 16)]⟩ := ⟨_, rfl⟩
        have HUQ : Hid (o1 ++ ⟨#[hexU (g.toNat % 16)]⟩ = up) := by
          show _ = _
          apply ByteArray.ext; apply Array.ext'
          rw [ho1, hup, ba_app, ba_app]; rfl
        obtain ⟨u1, hu1⟩ : ∃ u : ByteArray, u = ⟨#[hexU (g.toNat / 16)]⟩ := ⟨_, rfl⟩
        obtain ⟨u2, hu2⟩ : ∃ u : ByteArray, u = ⟨#[hexU (g.toNat % 16)]⟩ := ⟨_, rfl⟩
        rw [← hu1] at ho1 hd1'
        rw [← hu2] at HUQ hd2'
        have hu1s : ¬ 9223372036854775807 < 1 + u1.size := by rw [hu1]; show ¬ _ < 1 + 1; omega
        have hu2s : ¬ 9223372036854775807 < o1.size + u2.size := by rw [ho1, hu1, hu2, ByteArray.size_append]; show ¬ _ < 1 + 1 + 1; omega
        have cat9 := ho1.symm
        have cat10 := HUQ.out
        have cat11 := HR2.out
        have cat12 := HR3.out
        have hups : up.size = 3 := by rw [hup]; rfl
        have hlos : lo.size = 3 := by rw [← size_list, hlo]; exact g9
        have HTL : Hid (∀ W : World, Calls Tryd.prog 20 #[.string up] W fun e w' => e = .returned (.string lo) ∧ Below W.heap.size W w') := by
          intro W
          refine (Tryd.strings_ToLower_ascii up W (by omega) (fun j b hb => ?_)).mono ?_
          · rw [hup] at hb
            exact H8.out b (List.mem_of_getElem? hb)
          · rintro e w' ⟨rfl, hb⟩
            exact ⟨by rw [hlo, hup], hb⟩
        clear hq hx hl hnq hl180 h0 n1 n2 hp1 hp2 hq1 hq2 hk g1 g2 g3 g4 g5 g6 g7 g9 hg hsx HR2 HR3 m1 m3 ht hr1 e1 e2 hn ho1 HUQ hu1 hu2 hup hlo hr2 hr3 g8
        go_enter Tryd.func8, Tryd.ntmps8
        go_wp2_with fail
        refine (norm_at ⟨#[]⟩ ⟨#[]⟩ 3 HP.out m _ HT.out HM.out).mono ?_
        rintro e w1 ⟨rfl, hw1⟩
        have HM1 : Hid (w1.cell? ⟨0, 0, none⟩ = some (.int .i64 m)) := cell_keep hw1 HM.out
        go_wp2_with fail
        refine (norm_at s x 0 H1.out m _ (HT.out.below hw1) HM1.out).mono ?_
        rintro e w2 ⟨rfl, hb2⟩
        have hw2 := hw1.trans (hb2.mono hw1.size)
        clear hw1 hb2
        go_wp2_with fail
        refine (cont_one a _).mono ?_
        rintro e w3 ⟨rfl, rfl⟩
        rw [HQ.out]
        have HM3 : Hid (w3.cell? ⟨0, 0, none⟩ = some (.int .i64 m)) := cell_keep hw2 HM.out
        go_wp2_with fail
        refine (norm_at p2 x 0 H2.out m _ (HT.out.below hw2) HM3.out).mono ?_
        rintro e w4 ⟨rfl, hb4⟩
        have hw4 := hw2.trans (hb4.mono hw2.size)
        have HM4 : Hid (w4.cell? ⟨0, 0, none⟩ = some (.int .i64 m)) := cell_keep hw4 HM.out
        clear hw2 hb4
        go_wp2_with fail
        refine (norm_at q2 x 0 H3.out m _ (HT.out.below hw4) HM4.out).mono ?_
        rintro e w5 ⟨rfl, hb5⟩
        have hw5 := hw4.trans (hb5.mono hw4.size)
        have HM5 : Hid (w5.cell? ⟨0, 0, none⟩ = some (.int .i64 m)) := cell_keep hw5 HM.out
        clear hw4 hb5
        go_wp2_with fail
        refine (norm_at r1 t 0 H4.out m _ (HT.out.below hw5) HM5.out).mono ?_
        rintro e w6 ⟨rfl, hb6⟩
        have hw6 := hw5.trans (hb6.mono hw5.size)
        clear hw5 hb6
        go_wp2_with fail
        refine (escape_at ⟨#[33]⟩ ⟨#[37, 50, 49]⟩ 0 HE.out _).mono ?_
        rintro e w7 ⟨rfl, hb7⟩
        have hw7 := hw6.trans (hb7.mono hw6.size)
        clear hw6 hb7
        go_wp2_with fail
        go_region_o
        have hw8 := hw7.drew
        obtain ⟨w8, hw8e⟩ : ∃ w8, w8 = w7.drew := ⟨_, rfl⟩
        rw [← hw8e] at hw8 ⊢
        have HM8 : Hid (w8.cell? ⟨0, 0, none⟩ = some (.int .i64 m)) := cell_keep hw8 HM.out
        clear hw7 hw8e
        go_wp2_with fail
        refine (norm_at r2 t 0 H5.out m _ (HT.out.below hw8) HM8.out).mono ?_
        rintro e w9 ⟨rfl, hb9⟩
        have hw9 := hw8.trans (hb9.mono hw8.size)
        clear hw8 hb9
        go_wp2_with fail
        refine (HTL.out _).mono ?_
        rintro e w10 ⟨rfl, hb10⟩
        have hw10 := hw9.trans (hb10.mono hw9.size)
        have HM10 : Hid (w10.cell? ⟨0, 0, none⟩ = some (.int .i64 m)) := cell_keep hw10 HM.out
        clear hw9 hb10
        go_wp2_with fail
        refine (norm_at r3 t 0 H6.out m _ (HT.out.below hw10) HM10.out).mono ?_
        rintro e w11 ⟨rfl, hb11⟩
        have hw11 := hw10.trans (hb11.mono hw10.size)
        clear hw10 hb11
        go_wp2_with fail
        go_ret
        exact ⟨ret_bool (by first | rfl | simp), hw11⟩
  · obtain rfl := ba_nilr x (nrm_bad _ _ _ hx hc)
    have hcb : (c == 0) = false := by simp [hc]
    clear hx
    go_enter Tryd.func8, Tryd.ntmps8
    go_wp2_with fail
    refine (norm_at ⟨#[]⟩ ⟨#[]⟩ 3 HP.out m _ HT.out HM.out).mono ?_
    rintro e w1 ⟨rfl, hw1⟩
    have HM1 : Hid (w1.cell? ⟨0, 0, none⟩ = some (.int .i64 m)) := cell_keep hw1 HM.out
    go_wp2_with fail
    refine (norm_at s ⟨#[]⟩ c H1.out m _ (HT.out.below hw1) HM1.out).mono ?_
    rintro e w2 ⟨rfl, hb2⟩
    have hw2 := hw1.trans (hb2.mono hw1.size)
    clear hw1 hb2
    go_wp2_with fail
    go_ret
    exact ⟨ret_bool (by first | rfl | simp), hw2⟩
end Go.Proofs.YtbmmlbphbllcoaaDoor
