/-
  What New, Done, Body and Decode of package body compute, and Write of a Decoder that takes nothing more.
-/
import Derived.Test.YtofafonppajfkaaDoorWDw
import Derived.Laws.BytesArg
namespace Go.Proofs.YtofafonppajfkaaDoor
open Go.RowKit

set_option maxHeartbeats 1000000 in
set_option maxRecDepth 100000 in
theorem new_at (w : World) : Calls Tryd.prog 15 #[] w fun e w' => ∃ bd, e = .returned (ptr bd) ∧ Live w.heap.size w' bd start ∧ Below w.heap.size w w' := by
  go_enter Tryd.func15, Tryd.ntmps15
  go_wp2_with fail
  refine (mkNumber _ _ 0 0 (by go_num) (by go_num) _).mono ?_
  rintro e w1 ⟨f, rfl, hst, hbl⟩
  obtain ⟨g, lb, hf⟩ := hst.fn
  subst hf
  have HST : Hid (StepV w1 (.func (.func g) #[] lb) (.num 0 0)) := hst
  have hsz := hbl.size
  clear hst
  go_wp2_with fail
  go_ret
  have hb2 : Below w1.heap.size w1 (w1.alloc (.cells #[.func (.func g) #[] lb, .slice none 0 0, .slice none 0 0, .bool false] 66)) := (Below.refl _ w1).alloc (Nat.le_refl _) _
  refine ⟨w1.heap.size, rfl, ⟨_, ⟨.slice none 0 0, .slice none 0 0, w1.heap.size, at_last _ _, hsz, hsz, by simp, World.ownsRow_nil _ _ _ _, World.ownsRow_nil _ _ _ _, fun g hg => by simp [Value.ownBlock] at hg, fun _ => rfl⟩, (fun h => by cases h), fun _ => HST.out.keep (KeepC.below hb2)⟩, hbl.trans (hb2.mono hsz)⟩
set_option maxHeartbeats 1000000 in
set_option maxRecDepth 100000 in
theorem done_at (bd : Nat) (b : Bool) (w : World) (hc : w.cell? ⟨bd, 3, none⟩ = some (.bool b)) : Calls Tryd.prog 17 #[ptr bd] w fun e w' => e = .returned (.bool b) ∧ w' = w := by
  go_enter Tryd.func17, Tryd.ntmps17
  go_wp2_with fail
  go_ret
  exact ⟨rfl, rfl⟩
set_option maxHeartbeats 1000000 in
set_option maxRecDepth 100000 in
theorem body_no (bd : Nat) (w : World) (hc : w.cell? ⟨bd, 3, none⟩ = some (.bool false)) : Calls Tryd.prog 18 #[ptr bd] w fun e w' => e = .returned (.string ⟨#[]⟩) ∧ w' = w := by
  go_enter Tryd.func18, Tryd.ntmps18
  go_wp2_with fail
  go_ret
  exact ⟨rfl, rfl⟩
theorem body_conv {B : Nat} {w : World} {v : Value} (l : List UInt8) (h : w.ownsRow B 5 1 v l.length (u8s l)) : (convert 52 9 v).run Tryd.prog w = .ok (.string ⟨l.toArray⟩) w := by
  rcases h.2 with ⟨rfl, h0⟩ | ⟨g, cap, cur, hv, hB, hg, h3⟩
  · obtain rfl := List.eq_nil_of_length_eq_zero h0
    exact run_convert_bytes_nil (P := Tryd.prog) w 52 5 Tryd.underlying52 Tryd.underlying5 0 0 9 Tryd.underlying9
  · subst hv
    exact run_convert_bytes_back (P := Tryd.prog) w 52 9 5 ⟨g, 0, none⟩ cap l Tryd.underlying52 Tryd.underlying5 Tryd.underlying9 (fun j hj => by
      have h := h.cellAt j (by simpa using hj)
      rw [u8s_at, List.getElem?_eq_getElem hj] at h
      cases j <;> simpa [Addr.add] using h)
set_option maxHeartbeats 1000000 in
set_option maxRecDepth 100000 in
theorem body_yes (B bd : Nat) (f : Value) (x : Ds) (w : World) (hd : Dec B w bd f x) (hx : x.done = true) : Calls Tryd.prog 18 #[ptr bd] w fun e w' => e = .returned (.string ⟨x.body.toArray⟩) ∧ w' = w := by
  obtain ⟨vb, vf, Bf, h1, h2, h3, h4, h5, h6, h7, h8⟩ := hd
  obtain ⟨c0, c1, c2, c3⟩ := dec_cell h1
  rw [hx] at c3
  have hcv := body_conv x.body h5
  clear h1 h2 h3 h4 h5 h6 h7 h8 hx
  go_enter Tryd.func18, Tryd.ntmps18
  go_wp2_with fail
  go_ret
  exact ⟨rfl, rfl⟩
set_option maxHeartbeats 1000000 in
set_option maxRecDepth 100000 in
theorem write_dead (bd : Nat) (s : ByteArray) (w : World) (hc : w.cell? ⟨bd, 0, none⟩ = some .nilFunc) : Calls Tryd.prog 16 #[ptr bd, .string s] w fun e w' => e = .returned (.tuple #[.int .i64 0, .int .i64 7]) ∧ w' = w := by
  have hn := step_nil
  go_enter Tryd.func16, Tryd.ntmps16
  go_wp2_with fail
  go_ret2
  exact ⟨rfl, rfl⟩
theorem ret_sii {a b : ByteArray} {i j k l : Int} (h : a = b) (h' : i = j) (h'' : k = l) : Ending.returned (.tuple #[.string a, .int .i64 i, .int .i64 k]) = .returned (.tuple #[.string b, .int .i64 j, .int .i64 l]) := by rw [h, h', h'']
set_option maxHeartbeats 2000000 in
set_option maxRecDepth 100000 in
theorem decode_any (s : ByteArray) (m : Int) (w : World) (hs : s.size ≤ maxLen) (hm : w.cell? ⟨0, 0, none⟩ = some (.int .i64 m)) :
    Calls Tryd.prog 13 #[.string s] w fun e w' => e = .returned (.tuple #[.string ⟨(ans (runD start s.data.toList 0)).1.toArray⟩, .int .i64 ((ans (runD start s.data.toList 0)).2.1 : Int), .int .i64 (ans (runD start s.data.toList 0)).2.2]) ∧ Below w.heap.size w w' := by
  have hM := cell_in hm
  obtain ⟨r, hr⟩ : ∃ r, runD start s.data.toList 0 = r := ⟨_, rfl⟩
  rw [hr]
  have HR : Hid (runD start s.data.toList 0 = r) := hr
  clear hr
  have HM : Hid (w.cell? ⟨0, 0, none⟩ = some (.int .i64 m)) := hm
  have HS : Hid (s.size ≤ maxLen) := hs
  clear hm hs
  go_enter Tryd.func13, Tryd.ntmps13
  go_wp2_with fail
  refine (new_at _).mono ?_
  rintro e w1 ⟨bd, rfl, hl, hb1⟩
  have HL : Hid (Live w.heap.size w1 bd start) := hl
  have HM1 : Hid (w1.cell? ⟨0, 0, none⟩ = some (.int .i64 m)) := (hb1.cell (p := ⟨0, 0, none⟩) hM).trans HM.out
  clear hl
  go_wp2_with fail
  have hw := write_at w.heap.size start s bd m _ HL.out inv_start HS.out HM1.out hM
  rw [HR.out] at hw
  refine hw.mono ?_
  clear hw
  rintro e w2 ⟨rfl, hb2, hbad, hok⟩
  have hbb := hb1.trans hb2
  by_cases h0 : r.1 = 0
  · obtain ⟨f, hd, _, _⟩ := hok h0
    have hc3 := hd.cells.2.1
    have HD : Hid (Dec w.heap.size w2 bd f r.2.2) := hd
    cases hdn : r.2.2.done
    · have HA : Hid (ans r = ([], 0, 8)) := ans_short h0 hdn
      rw [hdn] at hc3
      have HC : Hid (w2.cell? ⟨bd, 3, none⟩ = some (.bool false)) := hc3
      clear hbad hok hd hdn hc3
      go_wp2_with fail
      refine (done_at bd false _ HC.out).mono ?_
      rintro e w3 ⟨rfl, rfl⟩
      go_wp2_with fail
      go_ret3
      rw [HA.out]
      exact ⟨rfl, hbb⟩
    · have HA : Hid (ans r = (r.2.2.body, r.2.1, 0)) := ans_ok h0 hdn
      rw [hdn] at hc3
      have HC : Hid (w2.cell? ⟨bd, 3, none⟩ = some (.bool true)) := hc3
      have HDN : Hid (r.2.2.done = true) := hdn
      clear hbad hok hd hdn hc3
      go_wp2_with fail
      refine (done_at bd true _ HC.out).mono ?_
      rintro e w3 ⟨rfl, rfl⟩
      go_wp2_with fail
      refine (body_yes _ bd f r.2.2 _ HD.out HDN.out).mono ?_
      rintro e w4 ⟨rfl, rfl⟩
      go_wp2_with fail
      go_ret3
      rw [HA.out]
      exact ⟨rfl, hbb⟩
  · have HA : Hid (ans r = ([], 0, r.1)) := ans_bad h0
    have h0' : (r.1 != 0) = true := by simpa using h0
    clear hbad hok h0
    go_wp2_with fail
    go_ret3
    rw [HA.out]
    exact ⟨rfl, hbb⟩
theorem decode_at (s t : ByteArray) (n : Nat) (c m : Int) (h : ans (runD start s.data.toList 0) = (t.data.toList, n, c)) (w : World) (hs : s.size ≤ maxLen) (hm : w.cell? ⟨0, 0, none⟩ = some (.int .i64 m)) :
    Calls Tryd.prog 13 #[.string s] w fun e w' => e = .returned (.tuple #[.string t, .int .i64 (n : Int), .int .i64 c]) ∧ Below w.heap.size w w' := by
  have := decode_any s m w hs hm
  rw [h] at this
  exact this
end Go.Proofs.YtofafonppajfkaaDoor
