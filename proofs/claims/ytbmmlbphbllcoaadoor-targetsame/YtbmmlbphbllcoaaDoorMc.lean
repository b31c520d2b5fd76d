/-
  What escaped, Unescape and Escape of the document's answers compute.
-/
import Derived.Test.YtbmmlbphbllcoaaDoorMb
import Derived.Deep.QuietTactic
import Derived.BigQuiet
import Derived.Test.YtbmmlbphbllcoaaDoorShelf
import Derived.Test.YtbmmlbphbllcoaaDoorRows
import Derived.Lib.IndexAny
import Derived.Lib.Join
namespace Go.Proofs.YtbmmlbphbllcoaaDoor
open Go.RowKit

theorem hexc (d : Nat) (h : d < 16) : ∃ q : ByteArray, (∀ w, (Instr.slice 9 (.string ⟨#[48, 49, 50, 51, 52, 53, 54, 55, 56, 57, 65, 66, 67, 68, 69, 70]⟩) (some (.int .i64 (d : Int))) none none).run Tryd.prog w = .ok (.string q) w) ∧
    (∀ w, (Instr.slice 9 (.string q) none (some (.int .i64 1)) none).run Tryd.prog w = .ok (.string ⟨#[hexU d]⟩) w) := by
  obtain ⟨q, hq, hqs, hr⟩ := slice_from ⟨#[48, 49, 50, 51, 52, 53, 54, 55, 56, 57, 65, 66, 67, 68, 69, 70]⟩ d (by show d ≤ 16; omega)
  have hqs' : q.size = 16 - d := hqs
  obtain ⟨p, hp, hps, hr2⟩ := slice_to q 1 (by omega)
  refine ⟨q, hr, fun w => ?_⟩
  have hpe : p = ⟨#[hexU d]⟩ := by
    apply ByteArray.ext; apply Array.ext'
    rw [hp, hq]
    have : ∀ d : Fin 16, ((⟨#[48, 49, 50, 51, 52, 53, 54, 55, 56, 57, 65, 66, 67, 68, 69, 70]⟩ : ByteArray).data.toList.drop d.1).take 1 = [hexU d.1] := by decide
    exact this ⟨d, h⟩
  rw [← hpe]
  have := hr2 w
  simpa using this
set_option maxHeartbeats 1000000 in
set_option maxRecDepth 100000 in
theorem resc_any (b : UInt8) (w : World) :
    Calls Tryd.prog 24 #[.string ⟨#[b]⟩] w fun e w' => e = .returned (.string ⟨(escB b).toArray⟩) ∧ ∃ n, w' = w.drewN n := by
  have hb := b.toNat_lt
  obtain ⟨q1, h1, h2⟩ := hexc (b.toNat / 16) (by omega)
  obtain ⟨q2, h3, h4⟩ := hexc (b.toNat % 16) (by omega)
  have e1 : ((b.toNat / 16 : Nat) : Int) = (b.toNat : Int) / 16 := by simp
  have e2 : ((b.toNat % 16 : Nat) : Int) = (b.toNat : Int) % 16 := by simp
  rw [e1] at h1
  rw [e2] at h3
  obtain ⟨n, hn⟩ : ∃ n : Int, n = (b.toNat : Int) := ⟨_, rfl⟩
  have hn0 : 0 ≤ n := by omega
  have hn1 : n < 256 := by omega
  have HN : Hid ((b.toNat : Int) = n) := hn.symm
  rw [← hn] at h1 h3
  have hz : (((⟨#[b]⟩ : ByteArray)[0]'(by show 0 < 1; omega)).toNat : Int) = n := hn.symm
  have hwz : IntKind.i64.wrap n = n := by rw [IntKind.wrap_i64]; omega
  clear e1 e2 hb hn
  go_enter Tryd.func24, Tryd.ntmps24
  go_wp2_with fail
  go_quiet (fail)
  go_wp2_with fail
  go_ret
  refine ⟨congrArg (fun z => Ending.returned (.string z)) ?_, nq, rfl⟩
  apply ByteArray.ext; apply Array.ext'
  simp [escB]
theorem free_contains (c : UInt8) : Lib.contains [97, 98, 99, 100, 101, 102, 103, 104, 105, 106, 107, 108, 109, 110, 111, 112, 113, 114, 115, 116, 117, 118, 119, 120, 121, 122, 65, 66, 67, 68, 69, 70, 71, 72, 73, 74, 75, 76, 77, 78, 79, 80, 81, 82, 83, 84, 85, 86, 87, 88, 89, 90, 48, 49, 50, 51, 52, 53, 54, 55, 56, 57, 45, 46, 95, 126] [c] = freeB c := by
  have := byAll (fun c => decide (Lib.contains [97, 98, 99, 100, 101, 102, 103, 104, 105, 106, 107, 108, 109, 110, 111, 112, 113, 114, 115, 116, 117, 118, 119, 120, 121, 122, 65, 66, 67, 68, 69, 70, 71, 72, 73, 74, 75, 76, 77, 78, 79, 80, 81, 82, 83, 84, 85, 86, 87, 88, 89, 90, 48, 49, 50, 51, 52, 53, 54, 55, 56, 57, 45, 46, 95, 126] [c] = freeB c)) (by decide +kernel) c
  exact of_decide_eq_true this
set_option maxRecDepth 100000 in
theorem rfree_at (c : UInt8) (m : Int) (w : World) (hm : w.cell? ⟨0, 0, none⟩ = some (.int .i64 m)) :
    Calls Tryd.prog 19 #[.string ⟨([97, 98, 99, 100, 101, 102, 103, 104, 105, 106, 107, 108, 109, 110, 111, 112, 113, 114, 115, 116, 117, 118, 119, 120, 121, 122, 65, 66, 67, 68, 69, 70, 71, 72, 73, 74, 75, 76, 77, 78, 79, 80, 81, 82, 83, 84, 85, 86, 87, 88, 89, 90, 48, 49, 50, 51, 52, 53, 54, 55, 56, 57, 45, 46, 95, 126] : List UInt8).toArray⟩, .string ⟨#[c]⟩] w fun e w' => e = .returned (.bool (freeB c)) ∧ w' = w := by
  have h := free_contains c
  refine (Tryd.strings_Contains _ _ m _ (by show 66 < 4294967281; omega) hm).mono ?_
  rintro e w' ⟨rfl, rfl⟩
  exact ⟨congrArg (fun z => Ending.returned (.bool z)) h, rfl⟩
set_option maxHeartbeats 1000000 in
set_option maxRecDepth 100000 in
theorem runE_any (s : ByteArray) (w : World) :
    Calls Tryd.prog 12 #[.string s] w fun e w' => e = .returned (.tuple #[.string ⟨(unR s.data.toList).1.toArray⟩, .int .i64 (unR s.data.toList).2]) ∧ Below w.heap.size w w' := by
  by_cases hs : s.size ≤ 200
  · have hs' : ¬ (200 : Int) < (s.size : Int) := by omega
    have hl : ¬ 200 < s.data.toList.length := by rw [size_list]; omega
    cases hu : unT s.data.toList with
    | none =>
      have HR : Hid (unR s.data.toList = ([], 3)) := by show _ = _; unfold unR; rw [if_neg hl, hu]
      have HU : Hid (unT s.data.toList = none) := hu
      clear hl hu
      go_enter Tryd.func12, Tryd.ntmps12
      go_wp2_with fail
      refine (runesc_any s _ hs).mono ?_
      rintro e w1 ⟨hb1, he⟩
      rcases he with ⟨_, rfl⟩ | ⟨ts, v, h, _⟩
      · go_wp2_with fail
        go_ret2
        rw [HR.out]
        exact ⟨rfl, hb1⟩
      · rw [HU.out] at h; cases h
    | some ts =>
      have HR : Hid (unR s.data.toList = (ts.map (·.1), 0)) := by show _ = _; unfold unR; rw [if_neg hl, hu]
      have HU : Hid (unT s.data.toList = some ts) := hu
      clear hl hu
      go_enter Tryd.func12, Tryd.ntmps12
      go_wp2_with fail
      refine (runesc_any s _ hs).mono ?_
      rintro e w1 ⟨hb1, he⟩
      rcases he with ⟨h, rfl⟩ | ⟨ts', v, h, rfl, hown⟩
      · rw [HU.out] at h; cases h
      · rw [HU.out] at h
        obtain rfl := Option.some.inj h
        obtain ⟨ad, cap, rfl, _⟩ := own_form2 hown
        clear hown
        go_wp2_with fail
        go_ret2
        rw [HR.out]
        exact ⟨rfl, hb1⟩
  · have hs' : (200 : Int) < (s.size : Int) := by omega
    have HR : Hid (unR s.data.toList = ([], 2)) := by show _ = _; unfold unR; rw [if_pos (by rw [size_list]; omega)]
    go_enter Tryd.func12, Tryd.ntmps12
    go_wp2_with fail
    go_ret2
    rw [HR.out]
    exact ⟨rfl, Below.refl _ _⟩
def tkOf (l : List UInt8) : List Tk := l.map fun c => (c, !freeB c)
theorem escS_snoc (l : List UInt8) (c : UInt8) : escS (l ++ [c]) = escS l ++ pr1 (c, !freeB c) := by
  unfold escS; rw [List.map_append, prT_app]; simp [prT]
theorem escS_len (l : List UInt8) : (escS l).length ≤ 3 * l.length := by
  induction l with
  | nil => simp [escS, prT]
  | cons c l ih =>
    have h : escS (c :: l) = pr1 (c, !freeB c) ++ escS l := by unfold escS; rw [List.map_cons, prT_cons]
    rw [h, List.length_append, List.length_cons]
    have : (pr1 (c, !freeB c)).length ≤ 3 := by unfold pr1; split <;> simp [escB]
    omega
set_option maxHeartbeats 2000000 in
set_option maxRecDepth 100000 in
theorem rescE_at (s t : ByteArray) (c : Int) (h : escR s.data.toList = (t.data.toList, c)) (m : Int) (w : World) (hs : s.size ≤ 281474976710656) (hm : w.cell? ⟨0, 0, none⟩ = some (.int .i64 m)) :
    Calls Tryd.prog 10 #[.string s] w fun e w' => e = .returned (.tuple #[.string t, .int .i64 c]) ∧ Below w.heap.size w w' := by
  have HM : Hid (w.cell? ⟨0, 0, none⟩ = some (.int .i64 m)) := hm
  have HR : Hid (escR s.data.toList = (t.data.toList, c)) := h
  clear hm h
  go_enter Tryd.func10, Tryd.ntmps10
  go_wp2_with fail
  go_loopw [4, 9] (fun ov i wr => ∃ (k : Nat) (o : ByteArray), k ≤ s.size ∧ i = .int .i64 k ∧ ov = .string o ∧ o.data.toList = escS (s.data.toList.take k) ∧ Below w.heap.size w wr) (fun _ i _ => s.size - (intOf i).toNat)
  case atStart => exact ⟨0, ⟨#[]⟩, Nat.zero_le _, rfl, rfl, rfl, Below.refl _ _⟩
  case round =>
    obtain ⟨k, o, hk, rfl, rfl, ho, hw⟩ := hrel
    have HO : Hid (o.data.toList = escS (s.data.toList.take k)) := ho
    have hos : o.size ≤ 3 * k := by
      have h1 := escS_len (s.data.toList.take k)
      rw [← ho, size_list] at h1
      have := List.length_take_le k s.data.toList
      omega
    clear ho
    by_cases hlt : k < s.size
    · obtain ⟨p, hp, hps, hsp⟩ := slice_part s k (k + 1) (by omega) (by omega)
      have hts := take_snoc s k hlt
      have hpe : p = ⟨#[s[k]]⟩ := by
        apply ByteArray.ext; apply Array.ext'
        rw [hp, show k + 1 - k = 1 by omega]
        have hkl : k < s.data.toList.length := by rw [size_list]; exact hlt
        rw [List.drop_eq_getElem_cons hkl]
        rfl
      subst hpe
      obtain ⟨d, hd⟩ : ∃ d, d = s[k] := ⟨_, rfl⟩
      rw [← hd] at hsp hts
      have hsp' : ∀ w, (Instr.slice 9 (.string s) (some (.int .i64 (k : Int))) (some (.int .i64 ((k : Int) + 1))) none).run Tryd.prog w = .ok (.string ⟨#[d]⟩) w := fun w => by simpa using hsp w
      have HT : Hid (s.data.toList.take (k + 1) = s.data.toList.take k ++ [d]) := hts
      have hki : (k : Int) < (s.size : Int) := by omega
      have HMr : Hid (wr.cell? ⟨0, 0, none⟩ = some (.int .i64 m)) := cell_keep hw HM.out
      clear hts hp hps hd hsp
      cases hf : freeB d
      · have HFR : Hid (freeB d = false) := hf
        have HO2 : Hid ((o ++ ⟨(escB d).toArray⟩).data.toList = escS (s.data.toList.take (k + 1))) := by
          show _ = _
          rw [HT.out, escS_snoc, ByteArray.data_append, Array.toList_append, HO.out, hf]; rfl
        have hadd : ¬ 9223372036854775807 < o.size + (⟨(escB d).toArray⟩ : ByteArray).size := by show ¬ _ < o.size + 3; omega
        clear hf
        go_wp2_with fail
        refine (rfree_at d m _ HMr.out).mono ?_
        rintro e w1 ⟨rfl, rfl⟩
        rw [HFR.out]
        go_wp2_with fail
        refine (resc_any d _).mono ?_
        rintro e w2 ⟨rfl, nd, rfl⟩
        obtain ⟨x, hx⟩ : ∃ x : ByteArray, x = ⟨(escB d).toArray⟩ := ⟨_, rfl⟩
        rw [← hx] at hadd HO2 ⊢
        clear hx
        have hw2 := hw.trans ((drewN_below w1.heap.size w1 nd).mono hw.size)
        go_wp2_with fail
        go_roundw
        case rel => exact ⟨k + 1, _, by omega, by go_num, rfl, HO2.out, hw2⟩
        case measure => simp [intOf]; omega
      · have HFR : Hid (freeB d = true) := hf
        have HO2 : Hid ((o ++ ⟨#[d]⟩).data.toList = escS (s.data.toList.take (k + 1))) := by
          show _ = _
          rw [HT.out, escS_snoc, ByteArray.data_append, Array.toList_append, HO.out, hf]; rfl
        have hadd : ¬ 9223372036854775807 < o.size + (⟨#[d]⟩ : ByteArray).size := by show ¬ _ < o.size + 1; omega
        clear hf
        go_wp2_with fail
        refine (rfree_at d m _ HMr.out).mono ?_
        rintro e w1 ⟨rfl, rfl⟩
        rw [HFR.out]
        obtain ⟨x, hx⟩ : ∃ x : ByteArray, x = ⟨#[d]⟩ := ⟨_, rfl⟩
        rw [← hx] at hadd HO2 ⊢
        clear hx hsp'
        go_wp2_with fail
        go_roundw
        case rel => exact ⟨k + 1, _, by omega, by go_num, rfl, HO2.out, hw⟩
        case measure => simp [intOf]; omega
    · obtain rfl : k = s.size := by omega
      have hoe : o.data.toList = escS s.data.toList := by
        rw [HO.out, List.take_of_length_le (by rw [size_list]; exact Nat.le_refl _)]
      by_cases hl : 200 < o.size
      · have hl' : (200 : Int) < (o.size : Int) := by omega
        have hR := HR.out
        unfold escR at hR
        rw [← hoe, size_list, if_pos hl] at hR
        have ht : t = ⟨#[]⟩ := by apply ByteArray.ext; apply Array.ext'; exact (Prod.mk.inj hR).1.symm
        have hc := (Prod.mk.inj hR).2.symm
        subst ht; subst hc
        clear hR hoe
        go_wp2_with fail
        go_ret2
        exact ⟨rfl, hw⟩
      · have hl' : ¬ (200 : Int) < (o.size : Int) := by omega
        have hR := HR.out
        unfold escR at hR
        rw [← hoe, size_list, if_neg hl] at hR
        have ht : t = o := by apply ByteArray.ext; apply Array.ext'; exact (Prod.mk.inj hR).1.symm
        have hc := (Prod.mk.inj hR).2.symm
        subst ht; subst hc
        clear hR hoe
        go_wp2_with fail
        go_ret2
        exact ⟨rfl, hw⟩
end Go.Proofs.YtbmmlbphbllcoaaDoor

/-
  What the functions plain and outside of the document's answers compute; a string is no longer than Go allows.
-/
namespace Go.Proofs.YtbmmlbphbllcoaaDoor
open Go.RowKit

set_option maxHeartbeats 400000 in
set_option maxRecDepth 100000 in
theorem outside_any (a b c : Int) (w : World) :
    Calls Tryd.prog 52 #[.int .i64 a, .int .i64 b, .int .i64 c] w fun e w' => e = .returned (.bool (decide (a < b ∨ c < a))) ∧ w' = w := by
  by_cases h : a < b
  · rw [decide_eq_true (Or.inl h)]
    go_enter Tryd.func52, Tryd.ntmps52
    go_wp2
    go_ret
    exact ⟨rfl, rfl⟩
  · have hd : decide (a < b) = false := decide_eq_false h
    by_cases h2 : c < a
    · rw [decide_eq_true (Or.inr h2)]
      go_enter Tryd.func52, Tryd.ntmps52
      go_wp2
      go_ret
      exact ⟨ret_bool (by simp), rfl⟩
    · rw [decide_eq_false (by omega)]
      have hd2 : decide (c < a) = false := decide_eq_false h2
      go_enter Tryd.func52, Tryd.ntmps52
      go_wp2
      go_ret
      exact ⟨ret_bool (by simp), rfl⟩

set_option maxHeartbeats 400000 in
set_option maxRecDepth 100000 in
theorem rplain_any (s : ByteArray) (w : World) (hs : s.size ≤ maxLen) :
    Calls Tryd.prog 32 #[.string s] w fun e w' => e = .returned (.bool (allPlain s.data.toList)) ∧ w' = w := by
  unfold maxLen at hs
  go_enter Tryd.func32, Tryd.ntmps32
  go_wp2_with fail
  go_loop [6] (fun i => ∃ k : Nat, k ≤ s.size ∧ i = .int .i64 k ∧ allPlain (s.data.toList.take k) = true) (fun i => s.size - (intOf i).toNat)
  case atStart => exact ⟨0, Nat.zero_le _, rfl, rfl⟩
  case round =>
    obtain ⟨k, hk, rfl, hall⟩ := hrel
    have HA : Hid (allPlain (s.data.toList.take k) = true) := hall
    clear hall
    by_cases hlt : k < s.size
    · have hc1 : (s[k].toNat : Int) < 256 := by have := s[k].toNat_lt; omega
      by_cases h9 : (s[k].toNat : Int) = 9
      · have hd : ((s[k].toNat : Int) != 9) = false := by simp [h9]
        have HP : Hid (plainB s[k] = true) := by show plainB s[k] = true; rw [plainB_iff]; simp [h9]
        clear h9
        go_wp2_with fail
        go_round
        case rel => exact ⟨k + 1, by omega, by go_num, by rw [take_snoc s k hlt]; exact allPlain_snoc _ _ HA.out HP.out⟩
        case measure => simp [intOf]; omega
      · have hd : ((s[k].toNat : Int) != 9) = true := by simp [h9]
        by_cases ho : (s[k].toNat : Int) < 32 ∨ 126 < (s[k].toNat : Int)
        · have HP : Hid (plainB s[k] = false) := by show plainB s[k] = false; rw [plainB_iff, decide_eq_false]; omega
          have HO : Hid ((s[k].toNat : Int) < 32 ∨ 126 < (s[k].toNat : Int)) := ho
          clear h9 ho
          go_wp2_with fail
          refine (outside_any _ _ _ _).mono ?_
          rintro e w' ⟨rfl, rfl⟩
          rw [decide_eq_true HO.out]
          go_wp2_with fail
          go_ret
          exact ⟨ret_bool (allPlain_dead s k hlt HP.out).symm, rfl⟩
        · have HP : Hid (plainB s[k] = true) := by show plainB s[k] = true; rw [plainB_iff, decide_eq_true]; omega
          have HO : Hid (¬ ((s[k].toNat : Int) < 32 ∨ 126 < (s[k].toNat : Int))) := ho
          clear h9 ho
          go_wp2_with fail
          refine (outside_any _ _ _ _).mono ?_
          rintro e w' ⟨rfl, rfl⟩
          rw [decide_eq_false HO.out]
          go_wp2_with fail
          go_round
          case rel => exact ⟨k + 1, by omega, by go_num, by rw [take_snoc s k hlt]; exact allPlain_snoc _ _ HA.out HP.out⟩
          case measure => simp [intOf]; omega
    · obtain rfl : k = s.size := by omega
      go_wp2_with fail
      go_ret
      have h := HA.out
      rw [take_all] at h
      exact ⟨ret_bool h.symm, rfl⟩
end Go.Proofs.YtbmmlbphbllcoaaDoor

/-
  A slice of texts that can be read, as a plain list; no program is named here.
-/
namespace Go.Proofs.YtbmmlbphbllcoaaDoor
open Go.RowKit

def strsV (ss : List (List UInt8)) : List Value := ss.map fun s => .string ⟨s.toArray⟩
def Sl (w : World) (v : Value) (ss : List (List UInt8)) : Prop :=
  ∃ g off cap, v = .slice (some ⟨g, off, none⟩) ss.length cap ∧ ss.length ≤ cap ∧ cap ≤ maxLen ∧ g < w.heap.size ∧ ∀ (k : Nat) (h : k < ss.length), w.cell? ⟨g, off + k, none⟩ = some (.string ⟨ss[k].toArray⟩)
theorem Sl.below {w w' : World} {v : Value} {ss : List (List UInt8)} (h : Sl w v ss) (hb : Below w.heap.size w w') : Sl w' v ss := by
  obtain ⟨g, off, cap, hv, h1, h2, hg, hc⟩ := h
  exact ⟨g, off, cap, hv, h1, h2, Nat.lt_of_lt_of_le hg hb.size, fun k hk => (hb.cell (p := ⟨g, off + k, none⟩) hg).trans (hc k hk)⟩
theorem strsV_get (ss : List (List UInt8)) (k : Nat) (h : k < ss.length) : (strsV ss)[k]? = some (.string ⟨ss[k].toArray⟩) := by
  unfold strsV; rw [List.getElem?_map, List.getElem?_eq_getElem h]; rfl
theorem strsV_one (ss : List (List UInt8)) : ∀ u ∈ strsV ss, u.oneCell' = true := by
  intro u hu
  obtain ⟨x, _, rfl⟩ := List.mem_map.1 hu
  rfl
theorem strsV_len (ss : List (List UInt8)) : (strsV ss).length = ss.length * 1 := by simp [strsV]
theorem Sl.own {w : World} {B : Nat} {e : TypeId} {v : Value} {ss : List (List UInt8)} (h : w.ownsRow B e 1 v ss.length (strsV ss)) (h0 : 0 < ss.length) : Sl w v ss := by
  obtain ⟨ad, cap, hv, h2, h1, h3⟩ := own_form2 h
  obtain ⟨g, ha, _, hg, hc⟩ := h3 h0
  subst ha
  refine ⟨g, 0, cap, hv, h1, h2, hg, fun k hk => ?_⟩
  rw [Nat.zero_add, hc k (by omega), strsV_get ss k hk]
theorem Sl.cells {w : World} {a : Addr} {n c : Nat} {ss : List (List UInt8)} (h : Sl w (.slice (some a) n c) ss) : ∀ j u, (strsV ss)[j]? = some u → w.cell? (a.add j) = some u := by
  obtain ⟨g, off, cap, hv, h1, h2, hg, hc⟩ := h
  obtain ⟨ha, _, _⟩ := Value.slice.inj hv
  obtain rfl := Option.some.inj ha
  intro j u hj
  have hjl : j < ss.length := by have := (List.getElem?_eq_some_iff.1 hj).1; simpa [strsV] using this
  rw [strsV_get ss j hjl] at hj
  have hform : (⟨g, off, none⟩ : Addr).add j = ⟨g, off + j, none⟩ := by
    by_cases h0 : j = 0
    · subst h0; simp [Addr.add]
    · simp [Addr.add, h0]
  rw [hform, hc j hjl]; exact hj
end Go.Proofs.YtbmmlbphbllcoaaDoor

/-
  The row of the type of texts, and the cells of a block of one; over the program's table of types.
-/
namespace Go.Proofs.YtbmmlbphbllcoaaDoor
open Go.RowKit

theorem info9 : (Tryd.prog.info? 9).map (fun i => (i.zero, i.size, i.bytes)) = some (some (.string ⟨#[]⟩), 1, 16) := by kernel_rfl
theorem one_cell (w : World) (v : Value) (t : TypeId) : ∀ (j : Nat) u, [v][j]? = some u → (w.alloc (.cells #[v] t)).cell? ((⟨w.heap.size, 0, none⟩ : Addr).add j) = some u := by
  intro j u h
  match j, h with
  | 0, h => simp at h; subst h; simp [Addr.add]
end Go.Proofs.YtbmmlbphbllcoaaDoor

/-
  Parts of a slice of texts, and what Copy of the document's answers computes of one.
-/
namespace Go.Proofs.YtbmmlbphbllcoaaDoor
open Go.RowKit

theorem elemS9 : Tryd.prog.elem 27 = 9 := by kernel_rfl
theorem addr_mk (g off k : Nat) : (⟨g, off, none⟩ : Addr).add k = ⟨g, off + k, none⟩ := by
  by_cases h0 : k = 0
  · subst h0; simp [Addr.add]
  · simp [Addr.add, h0]
theorem Sl.drop {w : World} {v : Value} {ss : List (List UInt8)} (h : Sl w v ss) (i : Nat) (hi : i ≤ ss.length) : ∃ v', (∀ W, (Instr.slice 27 v (some (.int .i64 (i : Int))) none none).run Tryd.prog W = .ok v' W) ∧ Sl w v' (ss.drop i) := by
  obtain ⟨g, off, cap, rfl, h1, h2, hg, hc⟩ := h
  by_cases hcap : cap = i
  · subst hcap
    have hn : ss.drop cap = [] := List.drop_eq_nil_of_le h1
    refine ⟨.slice (some ⟨g, off, none⟩) 0 0, fun W => ?_, ?_⟩
    · rw [run_slice_l W 27 (some ⟨g, off, none⟩) ss.length cap (by rw [elemS9]; exact Tryd.underlying27) .i64 (cap : Int) (by omega) (by omega), elemS9, Tryd.sizeOf9]
      have : ss.length = cap := by omega
      simp [Result.andThen, sliced, this]
    · rw [hn]
      exact ⟨g, off, 0, rfl, Nat.le_refl _, by unfold maxLen; omega, hg, fun k hk => by simp at hk⟩
  · refine ⟨.slice (some ⟨g, off + i, none⟩) (ss.length - i) (cap - i), fun W => ?_, ?_⟩
    · rw [run_slice_l W 27 (some ⟨g, off, none⟩) ss.length cap (by rw [elemS9]; exact Tryd.underlying27) .i64 (i : Int) (by omega) (by omega), elemS9, Tryd.sizeOf9]
      have : cap - i ≠ 0 := by omega
      have : ¬ cap ≤ i := by omega
      simp [Result.andThen, sliced, addr_mk, *]
    · refine ⟨g, off + i, cap - i, by rw [List.length_drop], by rw [List.length_drop]; omega, by omega, hg, fun k hk => ?_⟩
      rw [List.length_drop] at hk
      rw [Nat.add_assoc, hc (i + k) (by omega), List.getElem_drop]
theorem Sl.take {w : World} {v : Value} {ss : List (List UInt8)} (h : Sl w v ss) (i : Nat) (hi : i ≤ ss.length) : ∃ v', (∀ W, (Instr.slice 27 v none (some (.int .i64 (i : Int))) none).run Tryd.prog W = .ok v' W) ∧ Sl w v' (ss.take i) := by
  obtain ⟨g, off, cap, rfl, h1, h2, hg, hc⟩ := h
  have hl : (ss.take i).length = i := by rw [List.length_take]; omega
  refine ⟨.slice (some ⟨g, off, none⟩) i cap, fun W => ?_, ?_⟩
  · rw [run_slice_h W 27 (some ⟨g, off, none⟩) ss.length cap (by rw [elemS9]; exact Tryd.underlying27) .i64 (i : Int) (by omega) (by omega), elemS9, Tryd.sizeOf9]
    simp [Result.andThen, sliced, addr_mk]
  · refine ⟨g, off, cap, by rw [hl], by omega, h2, hg, fun k hk => ?_⟩
    rw [hl] at hk
    rw [hc k (by omega), List.getElem_take]
set_option maxHeartbeats 2000000 in
set_option maxRecDepth 100000 in
theorem copyS_any (v : Value) (ss : List (List UInt8)) (w : World) (hf : Sl w v ss) (hl : ss.length ≤ 1048576) :
    Calls Tryd.prog 35 #[v] w fun e w' => ∃ v', e = .returned v' ∧ w'.ownsRow w.heap.size 9 1 v' ss.length (strsV ss) ∧ Below w.heap.size w w' := by
  obtain ⟨i0, hi, hz0, hz1, hz2⟩ := info_parts info9
  have HF : Hid (Sl w v ss) := hf
  obtain ⟨g, off, cap, hv, hcap, hcm, hg, hcx⟩ := hf
  subst hv
  clear hcx
  unfold maxLen at hcm
  go_enter Tryd.func35, Tryd.ntmps35
  go_wp2_with (at_builtin; refine wpList_append_own _ rfl _ _ 27 rfl w.heap.size 9 i0 (.string ⟨#[]⟩) 1 16 Tryd.underlying27 hi hz0 hz1 hz2 rfl (by decide) (.slice none 0 0) 0 [] rfl (World.ownsRow_nil _ _ _ _) ⟨g, off, none⟩ ss.length cap (strsV ss) rfl (strsV_len ss) ?c1 ?c2 ?c3 ?c4 ?c5 ?_)
  case c1 => exact HF.out.cells
  case c2 => exact strsV_one ss
  case c3 => unfold maxLen; omega
  case c4 => omega
  case c5 => omega
  · intro v' w' hown' hgrow _
    have hB : Below w.heap.size w w' := (Below.refl _ w).grown hgrow (Nat.le_refl _) (fun b hb => ((World.ownsRow_nil w w.heap.size 9 1).lt b hb).1)
    have hown2 : w'.ownsRow w.heap.size 9 1 v' ss.length (strsV ss) := by
      exact hown'
    clear hown' hgrow
    go_wp2_with fail
    go_ret
    exact ⟨_, rfl, hown2, hB⟩
end Go.Proofs.YtbmmlbphbllcoaaDoor

/-
  What the check ahead of a target's one form asks; steps against dots in bytes; no program is named here.
-/
namespace Go.Proofs.YtbmmlbphbllcoaaDoor
open Go.RowKit

theorem any_vis (l : List UInt8) : (allPlain l && !Lib.containsAny l [32, 35, 9]) = l.all vis := by
  unfold allPlain Lib.containsAny
  induction l with
  | nil => rfl
  | cons c l ih =>
    rw [List.all_cons, List.all_cons, ← ih, Lib.indexAny]
    have hc := byAll (fun c => decide ((plainB c && !([32, 35, 9] : List UInt8).contains c) = vis c)) (by decide +kernel) c
    have hc := of_decide_eq_true hc
    have hg := Lib.indexAny_ge [32, 35, 9] l
    rw [← hc]
    generalize ([32, 35, 9] : List UInt8).contains c = b
    cases b
    · by_cases h2 : Lib.indexAny l [32, 35, 9] = -1
      · rw [h2]
        cases plainB c <;> simp
      · have h5 : (Lib.indexAny l [32, 35, 9] == -1) = false := by simpa using h2
        have h3 : 0 ≤ Lib.indexAny l [32, 35, 9] := by omega
        have h4 : 0 ≤ Lib.indexAny l [32, 35, 9] + 1 := by omega
        rw [h5]
        simp [h3, h4]
    · cases plainB c <;> simp
theorem prefix_head (l : List UInt8) : Lib.hasPrefix l [47] = decide (l.head? = some 47) := by
  unfold Lib.hasPrefix
  cases l with
  | nil => rfl
  | cons c l => 
    simp only [List.isPrefixOf, List.head?_cons, Bool.and_true]
    by_cases h : c = 47
    · subst h; simp
    · have : ((47 : UInt8) == c) = false := by rw [beq_eq_false_iff_ne]; exact fun e => h e.symm
      simp [this, h]
/-- The check, in parts. -/
theorem nrm_parts3 (s : List UInt8) (hl : ¬ 200 < s.length) (ts : List Tk) (hu : unT s = some ts) : nrmR s = if Lib.hasPrefix s [47] = true ∧ allPlain s = true ∧ Lib.containsAny s [32, 35, 9] = false then (prT (remT (ts.map can)), 0) else ([], 3) := by
  unfold nrmR
  rw [if_neg hl, hu, prefix_head, ← any_vis]
  by_cases h1 : s.head? = some 47
  · cases h2 : allPlain s
    · simp
    · cases h3 : Lib.containsAny s [32, 35, 9] <;> simp [h1]
  · simp [h1]
theorem nrm_none (s : List UInt8) (hl : ¬ 200 < s.length) (hu : unT s = none) : nrmR s = ([], 3) := by
  unfold nrmR
  rw [if_neg hl, hu]
  split <;> rfl
theorem dot_bytes (x : Step) (hx : TkOk x) : (prT x = [46] ↔ x = dot1) ∧ (prT x = [46, 46] ↔ x = dot2) := by
  have hu : unT (prT x) = some x := by
    have := un_pr x [] hx
    rw [List.append_nil] at this
    rw [this, unT_nil]; simp
  refine ⟨⟨fun e => ?_, fun e => by rw [e]; rfl⟩, ⟨fun e => ?_, fun e => by rw [e]; rfl⟩⟩
  · rw [e] at hu; exact (Option.some.inj hu).symm
  · rw [e] at hu; exact (Option.some.inj hu).symm
theorem wordsB_join (xs : List Step) : wordsB 47 (xs.map prT) = prT (joinS xs) := by
  induction xs with
  | nil => rfl
  | cons x xs ih => rw [List.map_cons, wordsB_cons, joinS_cons, prT_cons, prT_app, ih]; rfl
theorem join_words (x : Step) (xs : List Step) : 47 :: Lib.join ((x :: xs).map prT) [47] = prT (joinS (x :: xs)) := by
  have : ∀ (ws : List (List UInt8)) (w : List UInt8), Lib.join (w :: ws) [47] = w ++ wordsB 47 ws := by
    intro ws w
    rw [Lib.join_cons]
    simp [Lib.joinTail, wordsB, List.flatMap]
  rw [List.map_cons, this, wordsB_join, joinS_cons, prT_cons, prT_app]
  rfl
def sizeS (xs : List Step) : Nat := (xs.map fun x => 1 + x.length).sum
theorem sizeS_cons (x : Step) (xs : List Step) : sizeS (x :: xs) = 1 + x.length + sizeS xs := by simp [sizeS]
end Go.Proofs.YtbmmlbphbllcoaaDoor

/-
  New blocks lie above all that was there; no program is named here.
-/
namespace Go.Proofs.YtbmmlbphbllcoaaDoor
open Go.RowKit

theorem below_alloc (w : World) (o : Obj) : Below w.heap.size w (w.alloc o) := (Below.refl _ w).alloc (Nat.le_refl _) o
theorem below_alloc2 (w : World) (o o' : Obj) : Below w.heap.size w ((w.alloc o).alloc o') := (below_alloc w o).alloc (by simp) o'
theorem below_new {w w1 : World} {o : Obj} (h : Below (w.alloc o).heap.size (w.alloc o) w1) : Below w.heap.size w w1 := (below_alloc w o).trans (h.mono (by simp))
theorem below_new2 {w w1 : World} {o o' : Obj} (h : Below ((w.alloc o).alloc o').heap.size ((w.alloc o).alloc o') w1) : Below w.heap.size w w1 := (below_alloc2 w o o').trans (h.mono (by simp; omega))
theorem new_cell {w w1 : World} {cs : Array Value} {t : TypeId} (h : Below (w.alloc (.cells cs t)).heap.size (w.alloc (.cells cs t)) w1) (j : Nat) : w1.cell? ⟨w.heap.size, j, none⟩ = cs[j]? :=
  (h.cell (p := ⟨w.heap.size, j, none⟩) (by simp)).trans (by simp)
theorem new_cell2 {w w1 : World} {cs ds : Array Value} {t u : TypeId} (h : Below ((w.alloc (.cells cs t)).alloc (.cells ds u)).heap.size ((w.alloc (.cells cs t)).alloc (.cells ds u)) w1) (j : Nat) : w1.cell? ⟨w.heap.size, j, none⟩ = cs[j]? ∧ w1.cell? ⟨w.heap.size + 1, j, none⟩ = ds[j]? :=
  ⟨(h.cell (p := ⟨w.heap.size, j, none⟩) (by simp; omega)).trans (by simp), (h.cell (p := ⟨w.heap.size + 1, j, none⟩) (by simp)).trans (by simp)⟩
/-- A block of four cells, all of them written anew. -/
def set4 (w : World) (g : Nat) (a b c d : Value) : World := (((w.setCell ⟨g, 0, none⟩ a).setCell ⟨g, 1, none⟩ b).setCell ⟨g, 2, none⟩ c).setCell ⟨g, 3, none⟩ d
theorem set4_own {w : World} {g : Nat} {t : TypeId} {p q r s a b c d : Value} (h : w.heap[g]? = some (.cells #[p, q, r, s] t (0, 0))) : (set4 w g a b c d).heap[g]? = some (.cells #[a, b, c, d] t (0, 0)) := by
  unfold set4
  have h1 := heap_setCell_same w g 0 _ t a h
  have h2 := heap_setCell_same _ g 1 _ t b h1
  have h3 := heap_setCell_same _ g 2 _ t c h2
  exact heap_setCell_same _ g 3 _ t d h3
theorem set4_other {w : World} {g k : Nat} {a b c d : Value} (h : k ≠ g) : (set4 w g a b c d).heap[k]? = w.heap[k]? := by
  unfold set4
  rw [heap_setCell_other _ _ _ _ h, heap_setCell_other _ _ _ _ h, heap_setCell_other _ _ _ _ h, heap_setCell_other _ _ _ _ h]
theorem set4_below {B : Nat} {w0 w : World} {g : Nat} (a b c d : Value) (hb : Below B w0 w) (hg : B ≤ g) : Below B w0 (set4 w g a b c d) := (((hb.setCell hg a).setCell hg b).setCell hg c).setCell hg d
theorem set4_cell {w : World} {g : Nat} {t : TypeId} {p q r s a b c d : Value} (h : w.heap[g]? = some (.cells #[p, q, r, s] t (0, 0))) (j : Nat) : (set4 w g a b c d).cell? ⟨g, j, none⟩ = #[a, b, c, d][j]? := by
  simp [World.cell?, set4_own h]
end Go.Proofs.YtbmmlbphbllcoaaDoor
