/-
  What Write of package body's Decoder computes: the bytes come one by one.
-/
import Derived.Test.YtofafonppajfkaaDoorWDs6
import Derived.Test.YtofafonppajfkaaDoorWFnNil
import Derived.Deep.RegionHeld3
import Derived.Laws.EntriesVeiled
namespace Go.Proofs.YtofafonppajfkaaDoor
open Go.RowKit

/-- What a Decoder is once it has had an error. -/
def Dead (w : World) (bd : Nat) : Prop := w.heap[bd]? = some (.cells #[.nilFunc, .slice none 0 0, .slice none 0 0, .bool false] 66)
/-- What a Decoder is once it is done. -/
def Live (B : Nat) (w : World) (bd : Nat) (x : Ds) : Prop := ∃ f, Dec B w bd f x ∧ (x.done = true → f = .nilFunc) ∧ (x.done = false → StepV w f x.st)
def WrQ (B : Nat) (w w' : World) (bd : Nat) (r : Int × Nat × Ds) (e : Ending) : Prop :=
  e = .returned (.tuple #[.int .i64 (r.2.1 : Int), .int .i64 r.1]) ∧ Below B w w' ∧ (r.1 ≠ 0 → Dead w' bd) ∧ (r.1 = 0 → Live B w' bd r.2.2)
theorem ret_ii {a b c d : Int} (h : a = b) (h' : c = d) : Ending.returned (.tuple #[.int .i64 a, .int .i64 c]) = .returned (.tuple #[.int .i64 b, .int .i64 d]) := by rw [h, h']
theorem Dec.cells {B : Nat} {w : World} {bd : Nat} {f0 : Value} {x : Ds} (h : Dec B w bd f0 x) : w.cell? ⟨bd, 0, none⟩ = some f0 ∧ w.cell? ⟨bd, 3, none⟩ = some (.bool x.done) ∧ w.frozen? ⟨bd, 0, none⟩ = false := by
  obtain ⟨vb, vf, Bf, h1, _⟩ := h
  exact ⟨(dec_cell h1).1, (dec_cell h1).2.2.2, Lib.frozen_of_heap h1 0⟩
theorem Dec.setNext {B : Nat} {w : World} {bd : Nat} {f0 : Value} {x : Ds} (h : Dec B w bd f0 x) (f : Value) : Dec B (w.setCell ⟨bd, 0, none⟩ f) bd f x ∧ KeepC w (w.setCell ⟨bd, 0, none⟩ f) ∧ Below B w (w.setCell ⟨bd, 0, none⟩ f) := by
  obtain ⟨vb, vf, Bf, h1, h2, h3, h4, h5, h6, h7, h8⟩ := h
  refine ⟨⟨vb, vf, Bf, ?_, h2, h3, by simpa using h4, own_set h5 h1 _ _, own_set h6 h1 _ _, h7, h8⟩, KeepC.set h1 _ _, (Below.refl B w).setCell (by simpa using h2) _⟩
  rw [heap_set_at h1]; rfl
theorem StepV.fn {w : World} {f : Value} {st : St} (h : StepV w f st) : ∃ g lb, f = .func (.func g) #[] lb := by
  cases st with
  | num d n => obtain ⟨a, b, rfl, _⟩ := h; exact ⟨_, _, rfl⟩
  | ext d n => obtain ⟨a, b, rfl, _⟩ := h; exact ⟨_, _, rfl⟩
  | endn n => obtain ⟨a, rfl, _⟩ := h; exact ⟨_, _, rfl⟩
  | byt n => obtain ⟨a, rfl, _⟩ := h; exact ⟨_, _, rfl⟩
  | fld n => obtain ⟨a, rfl, _⟩ := h; exact ⟨_, _, rfl⟩
  | crlf => obtain ⟨a, b, c, d, rfl, _⟩ := h; exact ⟨_, _, rfl⟩
  | lf => obtain ⟨a, b, c, d, rfl, _⟩ := h; exact ⟨_, _, rfl⟩
theorem store_fn {w : World} {a : Addr} {u : Value} (fn : Fn) (fi ca : Array Value) (hc : w.cell? a = some u) (hf : w.frozen? a = false) : (store a (.func fn fi ca)).run Tryd.prog w = .ok () (w.setCell a (.func fn fi ca)) := by
  rw [run_store _ _ _ _ _ rfl]; simp [hc, hf]
theorem store_nil {w : World} {a : Addr} {u : Value} (hc : w.cell? a = some u) (hf : w.frozen? a = false) : (store a .nilFunc).run Tryd.prog w = .ok () (w.setCell a .nilFunc) := by
  rw [run_store_nilFunc]; simp [stored, hc, hf]
theorem drop_get (s : ByteArray) (k : Nat) (h : k < s.size) : s.data.toList.drop k = s[k] :: s.data.toList.drop (k + 1) := by
  rw [List.drop_eq_getElem_cons (by rw [size_list]; exact h)]; rfl
set_option maxHeartbeats 8000000 in
set_option maxRecDepth 100000 in
theorem write_at (B : Nat) (x : Ds) (s : ByteArray) (bd : Nat) (m : Int) (w : World) (hl : Live B w bd x) (hi : Inv x) (hs : s.size ≤ maxLen)
    (hm : w.cell? ⟨0, 0, none⟩ = some (.int .i64 m)) (hM : 0 < B) :
    Calls Tryd.prog 16 #[ptr bd, .string s] w fun e w' => WrQ B w w' bd (runD x s.data.toList 0) e := by
  unfold maxLen at hs
  obtain ⟨f, hd, _, hf⟩ := hl
  have hf := hf hi.1
  obtain ⟨vb, vf, Bf, g1, g2, g3, g4, g5, g6, g7, g8⟩ := id hd
  obtain ⟨hc0, _, _, _⟩ := dec_cell g1
  have HD : Hid (Dec B w bd f x) := hd
  have HF : Hid (StepV w f x.st) := hf
  have HI : Hid (Inv x) := hi
  have HM : Hid (w.cell? ⟨0, 0, none⟩ = some (.int .i64 m)) := hm
  obtain ⟨gg, lb, hfe, _, _⟩ := step_at B x 0 bd f m w hd hf hi hm hM
  subst hfe
  have hfn := step_fn
  clear g1 g3 g4 g5 g6 g7 g8 hd hf hi hm
  go_enter Tryd.func16, Tryd.ntmps16
  go_wp2_with fail
  go_loopw [16] (fun i wr => ∃ (k : Nat) (y : Ds) (f : Value), k ≤ s.size ∧ i = .int .i64 k ∧ runD x s.data.toList 0 = runD y (s.data.toList.drop k) k ∧ Inv y ∧ Dec B wr bd f y ∧ StepV wr f y.st ∧ Below B w wr) (fun i _ => s.size - (intOf i).toNat)
  case atStart => exact ⟨0, x, _, Nat.zero_le _, rfl, rfl, HI.out, HD.out, HF.out, Below.refl _ _⟩
  case round =>
    clear hc0
    obtain ⟨k, y, f, hk, rfl, hrun, hiy, hdy, hfy, hwr⟩ := hrel
    have hm1 : wr.cell? ⟨0, 0, none⟩ = some (.int .i64 m) := (hwr.cell (p := ⟨0, 0, none⟩) hM).trans HM.out
    by_cases hlt : k < s.size
    · obtain ⟨g, lb, hfe, eg, hcall⟩ := step_at B y s[k] bd f m wr hdy hfy hiy hm1 hM
      obtain ⟨vb2, vf2, Bf2, e1, _⟩ := id hdy
      obtain ⟨hc0, _, _, _⟩ := dec_cell e1
      subst hfe
      have HRUN : Hid (runD x s.data.toList 0 = runD y (s[k] :: s.data.toList.drop (k + 1)) k) := by show _ = _; rw [hrun, drop_get s k hlt]
      have hki : (k : Int) < (s.size : Int) := by omega
      have hk0 : (0 : Int) ≤ (k : Int) := by omega
      have HC : Hid (∀ W, Below wr.heap.size wr W → Calls Tryd.prog g (#[ptr bd, .int .u8 (s[k].toNat : Int)] ++ lb) W fun e w' => StQ B W w' bd (.func (.func g) #[] lb) (stepD y s[k]) e) := by
        intro W hW
        obtain ⟨g', lb', he', _, hc'⟩ := step_at B y s[k] bd _ m W (hdy.below hW) (hfy.keep (KeepC.below hW)) hiy ((hW.cell (p := ⟨0, 0, none⟩) (cell_in hm1)).trans hm1) hM
        injection he' with e1 _ e3
        injection e1 with e1
        subst e1 e3
        exact hc'
      have HIY : Hid (Inv y) := hiy
      have hbs := dec_size hdy
      clear hrun hcall hdy hfy hiy hm1 e1
      by_cases he : (stepD y s[k]).1 = 0
      · have HE : Hid ((stepD y s[k]).1 = 0) := he
        cases hdone : (stepD y s[k]).2.done
        · have HR : Hid (runD x s.data.toList 0 = runD (stepD y s[k]).2 (s.data.toList.drop (k + 1)) (k + 1)) := by show _ = _; rw [HRUN.out, runD, if_neg (by simpa using he), if_neg (by rw [hdone]; simp)]
          have HDN : Hid ((stepD y s[k]).2.done = false) := hdone
          clear he hdone
          go_wp2_with fail
          go_region_held3 (fun w' => w'.cell? ⟨bd, 0, none⟩ = some (.func (.func g) #[] lb)) (go_keep) (first | (go_at_fn g; refine ((HC.out _ (Below.refl _ _).drew).mono ?_); rintro e w3 ⟨hb3, _, he3⟩; obtain ⟨f', rfl, hd3, _, hst3⟩ := he3 HE.out; have hk1 : w3.cell? ⟨bd, 0, none⟩ = some (.func (.func g) #[] lb) := hd3.cells.1))
          all_goals
            obtain ⟨g5, lb5, hf5⟩ := (hst3 HDN.out).fn
            subst hf5
            obtain ⟨d0, d3, f0⟩ := hd3.cells
            rw [HDN.out] at d3
            have hs0 := store_fn (.func g5) #[] lb5 d0 f0
            obtain ⟨D1, D2, D3⟩ := hd3.setNext (.func (.func g5) #[] lb5)
            have HST : Hid (StepV (w3.setCell ⟨bd, 0, none⟩ (.func (.func g5) #[] lb5)) (.func (.func g5) #[] lb5) (stepD y s[k]).2.st) := (hst3 HDN.out).keep D2
            have HDD : Hid (Dec B (w3.setCell ⟨bd, 0, none⟩ (.func (.func g5) #[] lb5)) bd (.func (.func g5) #[] lb5) (stepD y s[k]).2) := D1
            have HBB : Hid (Below B w (w3.setCell ⟨bd, 0, none⟩ (.func (.func g5) #[] lb5))) := (hwr.drew.trans hb3).trans D3
            clear hst3 hd3 D1 D2 D3
            go_wp2_with fail
            go_roundw
            case rel => exact ⟨k + 1, _, _, by omega, by go_num, HR.out, inv_step HIY.out _ HE.out HDN.out, HDD.out, HST.out, HBB.out⟩
            case measure => simp [intOf]; omega
        · have HR : Hid (runD x s.data.toList 0 = (0, k + 1, (stepD y s[k]).2)) := by show _ = _; rw [HRUN.out, runD, if_neg (by simpa using he), if_pos hdone]
          have HDN : Hid ((stepD y s[k]).2.done = true) := hdone
          clear he hdone
          go_wp2_with fail
          go_region_held3 (fun w' => w'.cell? ⟨bd, 0, none⟩ = some (.func (.func g) #[] lb)) (go_keep) (first | (go_at_fn g; refine ((HC.out _ (Below.refl _ _).drew).mono ?_); rintro e w3 ⟨hb3, _, he3⟩; obtain ⟨f', rfl, hd3, hnil, _⟩ := he3 HE.out; have hk1 : w3.cell? ⟨bd, 0, none⟩ = some (.func (.func g) #[] lb) := hd3.cells.1))
          all_goals
            obtain rfl := hnil HDN.out
            obtain ⟨d0, d3, f0⟩ := hd3.cells
            rw [HDN.out] at d3
            have hs0 := store_nil d0 f0
            obtain ⟨D1, D2, D3⟩ := hd3.setNext .nilFunc
            have HDD : Hid (Dec B (w3.setCell ⟨bd, 0, none⟩ .nilFunc) bd .nilFunc (stepD y s[k]).2) := D1
            have HBB : Hid (Below B w (w3.setCell ⟨bd, 0, none⟩ .nilFunc)) := (hwr.drew.trans hb3).trans D3
            clear hd3 D1 D2 D3
            go_wp2_with fail
            go_ret2
            rw [HR.out]
            exact ⟨ret_ii (by go_num) rfl, HBB.out, fun h => absurd rfl h, fun _ => ⟨.nilFunc, HDD.out, fun _ => rfl, fun h => absurd (h.symm.trans HDN.out) (by simp)⟩⟩
      · have HE : Hid ((stepD y s[k]).1 ≠ 0) := he
        have heb : ((stepD y s[k]).1 != 0) = true := by simpa using he
        have HR : Hid (runD x s.data.toList 0 = ((stepD y s[k]).1, 0, y)) := by show _ = _; rw [HRUN.out, runD, if_pos he]
        clear he
        go_wp2_with fail
        go_region_held3 (fun w' => w'.cell? ⟨bd, 0, none⟩ = some (.func (.func g) #[] lb)) (go_keep) (first | (go_at_fn g; refine ((HC.out _ (Below.refl _ _).drew).mono ?_); rintro e w3 ⟨hb3, he3, _⟩; obtain ⟨rfl, q1, q2, q3, hblk⟩ := he3 HE.out; have hk1 : w3.cell? ⟨bd, 0, none⟩ = some (.func (.func g) #[] lb) := (dec_cell hblk).1))
        all_goals
          obtain ⟨d0, d1, d2, d3⟩ := dec_cell hblk
          have f0 : w3.frozen? ⟨bd, 0, none⟩ = false := Lib.frozen_of_heap hblk 0
          have f1 : w3.frozen? ⟨bd, 1, none⟩ = false := Lib.frozen_of_heap hblk 1
          have f2 : w3.frozen? ⟨bd, 2, none⟩ = false := Lib.frozen_of_heap hblk 2
          have f3 : w3.frozen? ⟨bd, 3, none⟩ = false := Lib.frozen_of_heap hblk 3
          have HBLK : Hid (w3.heap[bd]? = some (.cells #[.func (.func g) #[] lb, q1, q2, q3] 66)) := hblk
          clear hblk
          have hs0 : (store ⟨bd, 0, none⟩ .nilFunc).run Tryd.prog w3 = .ok () (w3.setCell ⟨bd, 0, none⟩ .nilFunc) := by rw [run_store_nilFunc]; simp [stored, d0, f0]
          go_wp2_with fail
          go_ret2
          rw [HR.out]
          have e1 := heap_set_at HBLK.out 0 .nilFunc
          have e2 := heap_set_at e1 1 (.slice none 0 0)
          have e3 := heap_set_at e2 2 (.slice none 0 0)
          have e4 := heap_set_at e3 3 (.bool false)
          refine ⟨rfl, ?_, fun _ => e4, fun h => absurd h HE.out⟩
          exact ((((hwr.drew.trans hb3).setCell (by simpa using g2) _).setCell (by simpa using g2) _).setCell (by simpa using g2) _).setCell (by simpa using g2) _
    · obtain rfl : k = s.size := by omega
      have HRUN : Hid (runD x s.data.toList 0 = (0, s.size, y)) := by show _ = _; rw [hrun, List.drop_eq_nil_of_le (by rw [size_list]; exact Nat.le_refl _)]; rfl
      have HL : Hid (Live B wr bd y) := ⟨f, hdy, fun h => absurd (h.symm.trans hiy.1) (by simp), fun _ => hfy⟩
      clear hrun hiy hdy hfy hm1
      go_wp2_with fail
      go_ret2
      rw [HRUN.out]
      exact ⟨rfl, hwr, fun h => absurd rfl h, fun _ => HL.out⟩
end Go.Proofs.YtofafonppajfkaaDoor
