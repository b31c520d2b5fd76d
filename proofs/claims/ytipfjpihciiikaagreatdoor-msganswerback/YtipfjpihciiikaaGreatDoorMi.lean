/-
  What Write of package body's Decoder computes: the bytes come one by one.
-/
import Derived.Test.YtipfjpihciiikaaGreatDoorMh
import Derived.Deep.RegionHeld3
import Derived.Laws.EntriesVeiled
import Derived.Laws.BytesArg
import Derived.Test.YtipfjpihciiikaaGreatDoorRows
namespace Go.Proofs.YtipfjpihciiikaaGreatDoor
open Go.RowKit

/-- What a Decoder is once it has had an error. -/
def Dead (w : World) (bd : Nat) : Prop := w.heap[bd]? = some (.cells #[.nilFunc, .slice none 0 0, .slice none 0 0, .bool false] 148)
/-- What a Decoder is once it is done. -/
def Live (B : Nat) (w : World) (bd : Nat) (x : Ds) : Prop := ∃ f, Dec B w bd f x ∧ (x.done = true → f = .nilFunc) ∧ (x.done = false → StepV w f x.st)
def WrQ (B : Nat) (w w' : World) (bd : Nat) (r : Int × Nat × Ds) (e : Ending) : Prop :=
  e = .returned (.tuple #[.int .i64 (r.2.1 : Int), .int .i64 r.1]) ∧ Below B w w' ∧ (r.1 ≠ 0 → Dead w' bd) ∧ (r.1 = 0 → Live B w' bd r.2.2)
theorem ret_ii {a b c d : Int} (h : a = b) (h' : c = d) : Ending.returned (.tuple #[.int .i64 a, .int .i64 c]) = .returned (.tuple #[.int .i64 b, .int .i64 d]) := by rw [h, h']
theorem Dec.cells {B : Nat} {w : World} {bd : Nat} {f0 : Value} {x : Ds} (h : Dec B w bd f0 x) : w.cell? ⟨bd, 0, none⟩ = some f0 ∧ w.cell? ⟨bd, 3, none⟩ = some (.bool x.done) ∧ w.frozen? ⟨bd, 0, none⟩ = false := by
  obtain ⟨vb, vf, Bf, h1, _⟩ := h
  exact ⟨(dec_cell h1).1, (dec_cell h1).2.2.2, Lib.frozen_of_heap h1 0⟩
theorem Dec.setNext {B : Nat} {w : World} {bd : Nat} {f0 : Value} {x : Ds} (h : Dec B w bd f0 x) (f : Value) : Dec B (w.setCell ⟨bd, 0, none⟩ f) bd f x ∧ KeepC w (w.setCell ⟨bd, 0, none⟩ f) ∧ Below B w (w.setCell ⟨bd, 0, none⟩ f) := by
  obtain ⟨vb, vf, Bf, h1, h2, h3, h4, h5, h6, h7, h8⟩ := h
  refine ⟨⟨vb, vf, Bf, ?_, h2, h3, by simpa using h4, own_set h5 h1 _ _, own_set h6 h1 _ _, h7, h8⟩, KeepC.set h1 _ _, (Below.refl B w).setCell (by simpa using h2) _⟩
  rw [heap_set_at h1]; rfl
theorem StepV.fn {w : World} {f : Value} {st : St} (h : StepV w f st) : ∃ g lb, f = .func (.func g) #[] lb := by
  cases st with
  | num d n => obtain ⟨a, b, rfl, _⟩ := h; exact ⟨_, _, rfl⟩
  | ext d n => obtain ⟨a, b, rfl, _⟩ := h; exact ⟨_, _, rfl⟩
  | endn n => obtain ⟨a, rfl, _⟩ := h; exact ⟨_, _, rfl⟩
  | byt n => obtain ⟨a, rfl, _⟩ := h; exact ⟨_, _, rfl⟩
  | fld n => obtain ⟨a, rfl, _⟩ := h; exact ⟨_, _, rfl⟩
  | crlf => obtain ⟨a, b, c, d, rfl, _⟩ := h; exact ⟨_, _, rfl⟩
  | lf => obtain ⟨a, b, c, d, rfl, _⟩ := h; exact ⟨_, _, rfl⟩
theorem store_fn {w : World} {a : Addr} {u : Value} (fn : Fn) (fi ca : Array Value) (hc : w.cell? a = some u) (hf : w.frozen? a = false) : (store a (.func fn fi ca)).run Tryz.prog w = .ok () (w.setCell a (.func fn fi ca)) := by
  rw [run_store _ _ _ _ _ rfl]; simp [hc, hf]
theorem store_nil {w : World} {a : Addr} {u : Value} (hc : w.cell? a = some u) (hf : w.frozen? a = false) : (store a .nilFunc).run Tryz.prog w = .ok () (w.setCell a .nilFunc) := by
  rw [run_store_nilFunc]; simp [stored, hc, hf]
theorem drop_get (s : ByteArray) (k : Nat) (h : k < s.size) : s.data.toList.drop k = s[k] :: s.data.toList.drop (k + 1) := by
  rw [List.drop_eq_getElem_cons (by rw [size_list]; exact h)]; rfl
set_option maxHeartbeats 8000000 in
set_option maxRecDepth 100000 in
theorem write_at (B : Nat) (x : Ds) (s : ByteArray) (bd : Nat) (m : Int) (w : World) (hl : Live B w bd x) (hi : Inv x) (hs : s.size ≤ maxLen)
    (hm : w.cell? ⟨0, 0, none⟩ = some (.int .i64 m)) (hM : 0 < B) :
    Calls Tryz.prog 118 #[ptr bd, .string s] w fun e w' => WrQ B w w' bd (runD x s.data.toList 0) e := by
  unfold maxLen at hs
  obtain ⟨f, hd, _, hf⟩ := hl
  have hf := hf hi.1
  obtain ⟨vb, vf, Bf, g1, g2, g3, g4, g5, g6, g7, g8⟩ := id hd
  obtain ⟨hc0, _, _, _⟩ := dec_cell g1
  have HD : Hid (Dec B w bd f x) := hd
  have HF : Hid (StepV w f x.st) := hf
  have HI : Hid (Inv x) := hi
  have HM : Hid (w.cell? ⟨0, 0, none⟩ = some (.int .i64 m)) := hm
  obtain ⟨gg, lb, hfe, _, _⟩ := step_at B x 0 bd f m w hd hf hi hm hM
  subst hfe
  have hfn := step_fn
  clear g1 g3 g4 g5 g6 g7 g8 hd hf hi hm
  go_enter Tryz.func118, Tryz.ntmps118
  go_wp2_with fail
  go_loopw [16] (fun i wr => ∃ (k : Nat) (y : Ds) (f : Value), k ≤ s.size ∧ i = .int .i64 k ∧ runD x s.data.toList 0 = runD y (s.data.toList.drop k) k ∧ Inv y ∧ Dec B wr bd f y ∧ StepV wr f y.st ∧ Below B w wr) (fun i _ => s.size - (intOf i).toNat)
  case atStart => exact ⟨0, x, _, Nat.zero_le _, rfl, rfl, HI.out, HD.out, HF.out, Below.refl _ _⟩
  case round =>
    clear hc0
    obtain ⟨k, y, f, hk, rfl, hrun, hiy, hdy, hfy, hwr⟩ := hrel
    have hm1 : wr.cell? ⟨0, 0, none⟩ = some (.int .i64 m) := (hwr.cell (p := ⟨0, 0, none⟩) hM).trans HM.out
    by_cases hlt : k < s.size
    · obtain ⟨g, lb, hfe, eg, hcall⟩ := step_at B y s[k] bd f m wr hdy hfy hiy hm1 hM
      obtain ⟨vb2, vf2, Bf2, e1, _⟩ := id hdy
      obtain ⟨hc0, _, _, _⟩ := dec_cell e1
      subst hfe
      have HRUN : Hid (runD x s.data.toList 0 = runD y (s[k] :: s.data.toList.drop (k + 1)) k) := by show _ = _; rw [hrun, drop_get s k hlt]
      have hki : (k : Int) < (s.size : Int) := by omega
      have hk0 : (0 : Int) ≤ (k : Int) := by omega
      have HC : Hid (∀ W, Below wr.heap.size wr W → Calls Tryz.prog g (#[ptr bd, .int .u8 (s[k].toNat : Int)] ++ lb) W fun e w' => StQ B W w' bd (.func (.func g) #[] lb) (stepD y s[k]) e) := by
        intro W hW
        obtain ⟨g', lb', he', _, hc'⟩ := step_at B y s[k] bd _ m W (hdy.below hW) (hfy.keep (KeepC.below hW)) hiy ((hW.cell (p := ⟨0, 0, none⟩) (cell_in hm1)).trans hm1) hM
        injection he' with e1 _ e3
        injection e1 with e1
        subst e1 e3
        exact hc'
      have HIY : Hid (Inv y) := hiy
      have hbs := dec_size hdy
      clear hrun hcall hdy hfy hiy hm1 e1
      by_cases he : (stepD y s[k]).1 = 0
      · have HE : Hid ((stepD y s[k]).1 = 0) := he
        cases hdone : (stepD y s[k]).2.done
        · have HR : Hid (runD x s.data.toList 0 = runD (stepD y s[k]).2 (s.data.toList.drop (k + 1)) (k + 1)) := by show _ = _; rw [HRUN.out, runD, if_neg (by simpa using he), if_neg (by rw [hdone]; simp)]
          have HDN : Hid ((stepD y s[k]).2.done = false) := hdone
          clear he hdone
          go_wp2_with fail
          go_region_held3 (fun w' => w'.cell? ⟨bd, 0, none⟩ = some (.func (.func g) #[] lb)) (go_keep) (first | (go_at_fn g; refine ((HC.out _ (Below.refl _ _).drew).mono ?_); rintro e w3 ⟨hb3, _, he3⟩; obtain ⟨f', rfl, hd3, _, hst3⟩ := he3 HE.out; have hk1 : w3.cell? ⟨bd, 0, none⟩ = some (.func (.func g) #[] lb) := hd3.cells.1))
          all_goals
            obtain ⟨g5, lb5, hf5⟩ := (hst3 HDN.out).fn
            subst hf5
            obtain ⟨d0, d3, f0⟩ := hd3.cells
            rw [HDN.out] at d3
            have hs0 := store_fn (.func g5) #[] lb5 d0 f0
            obtain ⟨D1, D2, D3⟩ := hd3.setNext (.func (.func g5) #[] lb5)
            have HST : Hid (StepV (w3.setCell ⟨bd, 0, none⟩ (.func (.func g5) #[] lb5)) (.func (.func g5) #[] lb5) (stepD y s[k]).2.st) := (hst3 HDN.out).keep D2
            have HDD : Hid (Dec B (w3.setCell ⟨bd, 0, none⟩ (.func (.func g5) #[] lb5)) bd (.func (.func g5) #[] lb5) (stepD y s[k]).2) := D1
            have HBB : Hid (Below B w (w3.setCell ⟨bd, 0, none⟩ (.func (.func g5) #[] lb5))) := (hwr.drew.trans hb3).trans D3
            clear hst3 hd3 D1 D2 D3
            go_wp2_with fail
            go_roundw
            case rel => exact ⟨k + 1, _, _, by omega, by go_num, HR.out, inv_step HIY.out _ HE.out HDN.out, HDD.out, HST.out, HBB.out⟩
            case measure => simp [intOf]; omega
        · have HR : Hid (runD x s.data.toList 0 = (0, k + 1, (stepD y s[k]).2)) := by show _ = _; rw [HRUN.out, runD, if_neg (by simpa using he), if_pos hdone]
          have HDN : Hid ((stepD y s[k]).2.done = true) := hdone
          clear he hdone
          go_wp2_with fail
          go_region_held3 (fun w' => w'.cell? ⟨bd, 0, none⟩ = some (.func (.func g) #[] lb)) (go_keep) (first | (go_at_fn g; refine ((HC.out _ (Below.refl _ _).drew).mono ?_); rintro e w3 ⟨hb3, _, he3⟩; obtain ⟨f', rfl, hd3, hnil, _⟩ := he3 HE.out; have hk1 : w3.cell? ⟨bd, 0, none⟩ = some (.func (.func g) #[] lb) := hd3.cells.1))
          all_goals
            obtain rfl := hnil HDN.out
            obtain ⟨d0, d3, f0⟩ := hd3.cells
            rw [HDN.out] at d3
            have hs0 := store_nil d0 f0
            obtain ⟨D1, D2, D3⟩ := hd3.setNext .nilFunc
            have HDD : Hid (Dec B (w3.setCell ⟨bd, 0, none⟩ .nilFunc) bd .nilFunc (stepD y s[k]).2) := D1
            have HBB : Hid (Below B w (w3.setCell ⟨bd, 0, none⟩ .nilFunc)) := (hwr.drew.trans hb3).trans D3
            clear hd3 D1 D2 D3
            go_wp2_with fail
            go_ret2
            rw [HR.out]
            exact ⟨ret_ii (by go_num) rfl, HBB.out, fun h => absurd rfl h, fun _ => ⟨.nilFunc, HDD.out, fun _ => rfl, fun h => absurd (h.symm.trans HDN.out) (by simp)⟩⟩
      · have HE : Hid ((stepD y s[k]).1 ≠ 0) := he
        have heb : ((stepD y s[k]).1 != 0) = true := by simpa using he
        have HR : Hid (runD x s.data.toList 0 = ((stepD y s[k]).1, 0, y)) := by show _ = _; rw [HRUN.out, runD, if_pos he]
        clear he
        go_wp2_with fail
        go_region_held3 (fun w' => w'.cell? ⟨bd, 0, none⟩ = some (.func (.func g) #[] lb)) (go_keep) (first | (go_at_fn g; refine ((HC.out _ (Below.refl _ _).drew).mono ?_); rintro e w3 ⟨hb3, he3, _⟩; obtain ⟨rfl, q1, q2, q3, hblk⟩ := he3 HE.out; have hk1 : w3.cell? ⟨bd, 0, none⟩ = some (.func (.func g) #[] lb) := (dec_cell hblk).1))
        all_goals
          obtain ⟨d0, d1, d2, d3⟩ := dec_cell hblk
          have f0 : w3.frozen? ⟨bd, 0, none⟩ = false := Lib.frozen_of_heap hblk 0
          have f1 : w3.frozen? ⟨bd, 1, none⟩ = false := Lib.frozen_of_heap hblk 1
          have f2 : w3.frozen? ⟨bd, 2, none⟩ = false := Lib.frozen_of_heap hblk 2
          have f3 : w3.frozen? ⟨bd, 3, none⟩ = false := Lib.frozen_of_heap hblk 3
          have HBLK : Hid (w3.heap[bd]? = some (.cells #[.func (.func g) #[] lb, q1, q2, q3] 148)) := hblk
          clear hblk
          have hs0 : (store ⟨bd, 0, none⟩ .nilFunc).run Tryz.prog w3 = .ok () (w3.setCell ⟨bd, 0, none⟩ .nilFunc) := by rw [run_store_nilFunc]; simp [stored, d0, f0]
          go_wp2_with fail
          go_ret2
          rw [HR.out]
          have e1 := heap_set_at HBLK.out 0 .nilFunc
          have e2 := heap_set_at e1 1 (.slice none 0 0)
          have e3 := heap_set_at e2 2 (.slice none 0 0)
          have e4 := heap_set_at e3 3 (.bool false)
          refine ⟨rfl, ?_, fun _ => e4, fun h => absurd h HE.out⟩
          exact ((((hwr.drew.trans hb3).setCell (by simpa using g2) _).setCell (by simpa using g2) _).setCell (by simpa using g2) _).setCell (by simpa using g2) _
    · obtain rfl : k = s.size := by omega
      have HRUN : Hid (runD x s.data.toList 0 = (0, s.size, y)) := by show _ = _; rw [hrun, List.drop_eq_nil_of_le (by rw [size_list]; exact Nat.le_refl _)]; rfl
      have HL : Hid (Live B wr bd y) := ⟨f, hdy, fun h => absurd (h.symm.trans hiy.1) (by simp), fun _ => hfy⟩
      clear hrun hiy hdy hfy hm1
      go_wp2_with fail
      go_ret2
      rw [HRUN.out]
      exact ⟨rfl, hwr, fun h => absurd rfl h, fun _ => HL.out⟩
end Go.Proofs.YtipfjpihciiikaaGreatDoor

/-
  What New, Done, Body and Decode of package body compute, and Write of a Decoder that takes nothing more.
-/
namespace Go.Proofs.YtipfjpihciiikaaGreatDoor
open Go.RowKit

set_option maxHeartbeats 1000000 in
set_option maxRecDepth 100000 in
theorem new_at (w : World) : Calls Tryz.prog 117 #[] w fun e w' => ∃ bd, e = .returned (ptr bd) ∧ Live w.heap.size w' bd start ∧ Below w.heap.size w w' := by
  go_enter Tryz.func117, Tryz.ntmps117
  go_wp2_with fail
  refine (mkNumber _ _ 0 0 (by go_num) (by go_num) _).mono ?_
  rintro e w1 ⟨f, rfl, hst, hbl⟩
  obtain ⟨g, lb, hf⟩ := hst.fn
  subst hf
  have HST : Hid (StepV w1 (.func (.func g) #[] lb) (.num 0 0)) := hst
  have hsz := hbl.size
  clear hst
  go_wp2_with fail
  go_ret
  have hb2 : Below w1.heap.size w1 (w1.alloc (.cells #[.func (.func g) #[] lb, .slice none 0 0, .slice none 0 0, .bool false] 148)) := (Below.refl _ w1).alloc (Nat.le_refl _) _
  refine ⟨w1.heap.size, rfl, ⟨_, ⟨.slice none 0 0, .slice none 0 0, w1.heap.size, at_last _ _, hsz, hsz, by simp, World.ownsRow_nil _ _ _ _, World.ownsRow_nil _ _ _ _, fun g hg => by simp [Value.ownBlock] at hg, fun _ => rfl⟩, (fun h => by cases h), fun _ => HST.out.keep (KeepC.below hb2)⟩, hbl.trans (hb2.mono hsz)⟩
set_option maxHeartbeats 1000000 in
set_option maxRecDepth 100000 in
theorem done_at (bd : Nat) (b : Bool) (w : World) (hc : w.cell? ⟨bd, 3, none⟩ = some (.bool b)) : Calls Tryz.prog 119 #[ptr bd] w fun e w' => e = .returned (.bool b) ∧ w' = w := by
  go_enter Tryz.func119, Tryz.ntmps119
  go_wp2_with fail
  go_ret
  exact ⟨rfl, rfl⟩
set_option maxHeartbeats 1000000 in
set_option maxRecDepth 100000 in
theorem body_no (bd : Nat) (w : World) (hc : w.cell? ⟨bd, 3, none⟩ = some (.bool false)) : Calls Tryz.prog 120 #[ptr bd] w fun e w' => e = .returned (.string ⟨#[]⟩) ∧ w' = w := by
  go_enter Tryz.func120, Tryz.ntmps120
  go_wp2_with fail
  go_ret
  exact ⟨rfl, rfl⟩
theorem body_conv {B : Nat} {w : World} {v : Value} (l : List UInt8) (h : w.ownsRow B 5 1 v l.length (u8s l)) : (convert 94 9 v).run Tryz.prog w = .ok (.string ⟨l.toArray⟩) w := by
  rcases h.2 with ⟨rfl, h0⟩ | ⟨g, cap, cur, hv, hB, hg, h3⟩
  · obtain rfl := List.eq_nil_of_length_eq_zero h0
    exact run_convert_bytes_nil (P := Tryz.prog) w 94 5 Tryz.underlying94 Tryz.underlying5 0 0 9 Tryz.underlying9
  · subst hv
    exact run_convert_bytes_back (P := Tryz.prog) w 94 9 5 ⟨g, 0, none⟩ cap l Tryz.underlying94 Tryz.underlying5 Tryz.underlying9 (fun j hj => by
      have h := h.cellAt j (by simpa using hj)
      rw [u8s_at, List.getElem?_eq_getElem hj] at h
      cases j <;> simpa [Addr.add] using h)
set_option maxHeartbeats 1000000 in
set_option maxRecDepth 100000 in
theorem body_yes (B bd : Nat) (f : Value) (x : Ds) (w : World) (hd : Dec B w bd f x) (hx : x.done = true) : Calls Tryz.prog 120 #[ptr bd] w fun e w' => e = .returned (.string ⟨x.body.toArray⟩) ∧ w' = w := by
  obtain ⟨vb, vf, Bf, h1, h2, h3, h4, h5, h6, h7, h8⟩ := hd
  obtain ⟨c0, c1, c2, c3⟩ := dec_cell h1
  rw [hx] at c3
  have hcv := body_conv x.body h5
  clear h1 h2 h3 h4 h5 h6 h7 h8 hx
  go_enter Tryz.func120, Tryz.ntmps120
  go_wp2_with fail
  go_ret
  exact ⟨rfl, rfl⟩
set_option maxHeartbeats 1000000 in
set_option maxRecDepth 100000 in
theorem write_dead (bd : Nat) (s : ByteArray) (w : World) (hc : w.cell? ⟨bd, 0, none⟩ = some .nilFunc) : Calls Tryz.prog 118 #[ptr bd, .string s] w fun e w' => e = .returned (.tuple #[.int .i64 0, .int .i64 7]) ∧ w' = w := by
  have hn := step_nil
  go_enter Tryz.func118, Tryz.ntmps118
  go_wp2_with fail
  go_ret2
  exact ⟨rfl, rfl⟩
theorem ret_sii {a b : ByteArray} {i j k l : Int} (h : a = b) (h' : i = j) (h'' : k = l) : Ending.returned (.tuple #[.string a, .int .i64 i, .int .i64 k]) = .returned (.tuple #[.string b, .int .i64 j, .int .i64 l]) := by rw [h, h', h'']
set_option maxHeartbeats 2000000 in
set_option maxRecDepth 100000 in
theorem decode_any (s : ByteArray) (m : Int) (w : World) (hs : s.size ≤ maxLen) (hm : w.cell? ⟨0, 0, none⟩ = some (.int .i64 m)) :
    Calls Tryz.prog 87 #[.string s] w fun e w' => e = .returned (.tuple #[.string ⟨(ans (runD start s.data.toList 0)).1.toArray⟩, .int .i64 ((ans (runD start s.data.toList 0)).2.1 : Int), .int .i64 (ans (runD start s.data.toList 0)).2.2]) ∧ Below w.heap.size w w' := by
  have hM := cell_in hm
  obtain ⟨r, hr⟩ : ∃ r, runD start s.data.toList 0 = r := ⟨_, rfl⟩
  rw [hr]
  have HR : Hid (runD start s.data.toList 0 = r) := hr
  clear hr
  have HM : Hid (w.cell? ⟨0, 0, none⟩ = some (.int .i64 m)) := hm
  have HS : Hid (s.size ≤ maxLen) := hs
  clear hm hs
  go_enter Tryz.func87, Tryz.ntmps87
  go_wp2_with fail
  refine (new_at _).mono ?_
  rintro e w1 ⟨bd, rfl, hl, hb1⟩
  have HL : Hid (Live w.heap.size w1 bd start) := hl
  have HM1 : Hid (w1.cell? ⟨0, 0, none⟩ = some (.int .i64 m)) := (hb1.cell (p := ⟨0, 0, none⟩) hM).trans HM.out
  clear hl
  go_wp2_with fail
  have hw := write_at w.heap.size start s bd m _ HL.out inv_start HS.out HM1.out hM
  rw [HR.out] at hw
  refine hw.mono ?_
  clear hw
  rintro e w2 ⟨rfl, hb2, hbad, hok⟩
  have hbb := hb1.trans hb2
  by_cases h0 : r.1 = 0
  · obtain ⟨f, hd, _, _⟩ := hok h0
    have hc3 := hd.cells.2.1
    have HD : Hid (Dec w.heap.size w2 bd f r.2.2) := hd
    cases hdn : r.2.2.done
    · have HA : Hid (ans r = ([], 0, 8)) := ans_short h0 hdn
      rw [hdn] at hc3
      have HC : Hid (w2.cell? ⟨bd, 3, none⟩ = some (.bool false)) := hc3
      clear hbad hok hd hdn hc3
      go_wp2_with fail
      refine (done_at bd false _ HC.out).mono ?_
      rintro e w3 ⟨rfl, rfl⟩
      go_wp2_with fail
      go_ret3
      rw [HA.out]
      exact ⟨rfl, hbb⟩
    · have HA : Hid (ans r = (r.2.2.body, r.2.1, 0)) := ans_ok h0 hdn
      rw [hdn] at hc3
      have HC : Hid (w2.cell? ⟨bd, 3, none⟩ = some (.bool true)) := hc3
      have HDN : Hid (r.2.2.done = true) := hdn
      clear hbad hok hd hdn hc3
      go_wp2_with fail
      refine (done_at bd true _ HC.out).mono ?_
      rintro e w3 ⟨rfl, rfl⟩
      go_wp2_with fail
      refine (body_yes _ bd f r.2.2 _ HD.out HDN.out).mono ?_
      rintro e w4 ⟨rfl, rfl⟩
      go_wp2_with fail
      go_ret3
      rw [HA.out]
      exact ⟨rfl, hbb⟩
  · have HA : Hid (ans r = ([], 0, r.1)) := ans_bad h0
    have h0' : (r.1 != 0) = true := by simpa using h0
    clear hbad hok h0
    go_wp2_with fail
    go_ret3
    rw [HA.out]
    exact ⟨rfl, hbb⟩
theorem decode_at (s t : ByteArray) (n : Nat) (c m : Int) (h : ans (runD start s.data.toList 0) = (t.data.toList, n, c)) (w : World) (hs : s.size ≤ maxLen) (hm : w.cell? ⟨0, 0, none⟩ = some (.int .i64 m)) :
    Calls Tryz.prog 87 #[.string s] w fun e w' => e = .returned (.tuple #[.string t, .int .i64 (n : Int), .int .i64 c]) ∧ Below w.heap.size w w' := by
  have := decode_any s m w hs hm
  rw [h] at this
  exact this
end Go.Proofs.YtipfjpihciiikaaGreatDoor

/-
  Parts of a text, as laws of the slice operation.
-/
namespace Go.Proofs.YtipfjpihciiikaaGreatDoor
open Go.RowKit

theorem slice_from (s : ByteArray) (a : Nat) (ha : a ≤ s.size) : ∃ r : ByteArray, r.data.toList = s.data.toList.drop a ∧ r.size = s.size - a ∧ ∀ w, (Instr.slice 9 (.string s) (some (.int .i64 (a : Int))) none none).run Tryz.prog w = .ok (.string r) w := by
  refine ⟨s.extract a s.size, ?_, ?_, fun w => ?_⟩
  · rw [Lib.extract_data, List.take_of_length_le (by rw [List.length_drop, size_list]; omega)]
  · rw [ByteArray.size_extract]; omega
  · rw [run_slice_string_l w 9 s Tryz.underlying9 .i64 (a : Int) (by omega) (by omega)]; rfl
theorem slice_part (s : ByteArray) (a b : Nat) (ha : a ≤ b) (hb : b ≤ s.size) : ∃ r : ByteArray, r.data.toList = (s.data.toList.drop a).take (b - a) ∧ r.size = b - a ∧ ∀ w, (Instr.slice 9 (.string s) (some (.int .i64 (a : Int))) (some (.int .i64 (b : Int))) none).run Tryz.prog w = .ok (.string r) w := by
  refine ⟨s.extract a b, ?_, ?_, fun w => ?_⟩
  · rw [Lib.extract_data]
  · rw [ByteArray.size_extract]; omega
  · rw [run_slice_string w 9 s .i64 .i64 _ _ Tryz.underlying9 (by omega) (by omega) (by omega)]; rfl
theorem slice_to (s : ByteArray) (b : Nat) (hb : b ≤ s.size) : ∃ r : ByteArray, r.data.toList = s.data.toList.take b ∧ r.size = b ∧ ∀ w, (Instr.slice 9 (.string s) none (some (.int .i64 (b : Int))) none).run Tryz.prog w = .ok (.string r) w := by
  refine ⟨s.extract 0 b, ?_, ?_, fun w => ?_⟩
  · rw [Lib.extract_data]; simp
  · rw [ByteArray.size_extract]; omega
  · rw [run_slice_string_h w 9 s Tryz.underlying9 .i64 (b : Int) (by omega) (by omega)]; rfl
end Go.Proofs.YtipfjpihciiikaaGreatDoor

/-
  What readBody and readRest of package msg compute; how the fields are parsed is told by a hypothesis; the listed variables that the library reads hold what their text lays.
-/
namespace Go.Proofs.YtipfjpihciiikaaGreatDoor
open Go.RowKit

set_option maxHeartbeats 1000000 in
set_option maxRecDepth 100000 in
theorem rbody_at (k n : Int) (hk : k = 1 ∨ k = 2 ∨ k = 3 ∨ k = 4) (hn0 : 0 ≤ n) (hn : n ≤ 5000) (s t : ByteArray) (i : Nat) (c : Int) (h : rbS k n s.data.toList = (t.data.toList, i, c)) (m : Int) (w : World) (hs : s.size ≤ maxLen) (hm : w.cell? ⟨0, 0, none⟩ = some (.int .i64 m)) :
    Calls Tryz.prog 51 #[.int .i64 k, .int .i64 n, .string s] w fun e w' => e = .returned (.tuple #[.string t, .int .i64 (i : Int), .int .i64 c]) ∧ Below w.heap.size w w' := by
  have HM : Hid (w.cell? ⟨0, 0, none⟩ = some (.int .i64 m)) := hm
  have HS : Hid (s.size ≤ maxLen) := hs
  clear hm hs
  obtain ⟨b, rfl⟩ : ∃ b : Nat, n = (b : Int) := ⟨n.toNat, by omega⟩
  have HBN : Hid (b ≤ 5000) := by show _ ≤ _; omega
  have emp : ∀ x : Int, ([], 0, x) = (t.data.toList, i, c) → t = ⟨#[]⟩ ∧ i = 0 ∧ c = x := by
    intro x hx
    simp only [Prod.mk.injEq] at hx
    exact ⟨by apply ByteArray.ext; apply Array.ext'; exact hx.1.symm, hx.2.1.symm, hx.2.2.symm⟩
  have low : ∀ k : Int, k ≠ 3 → k ≠ 4 → rbS k b s.data.toList = if s.size < b then ([], 0, 8) else (s.data.toList.take b, b, 0) := by
    intro k h3 h4
    unfold rbS
    rw [if_neg h3, if_neg h4, size_list]
    by_cases hb : s.size < b
    · rw [if_pos (by omega), if_pos hb]
    · rw [if_neg (by omega), if_neg hb]; rfl
  have both : (k = 1 ∨ k = 2) → Calls Tryz.prog 51 #[.int .i64 k, .int .i64 (b : Int), .string s] w fun e w' => e = .returned (.tuple #[.string t, .int .i64 (i : Int), .int .i64 c]) ∧ Below w.heap.size w w' := by
    intro hk
    rw [low k (by omega) (by omega)] at h
    by_cases hb : s.size < b
    · rw [if_pos hb] at h
      obtain ⟨rfl, rfl, rfl⟩ := emp _ h
      have hb' : (s.size : Int) < (b : Int) := by omega
      clear h emp low hb hn0 hn
      rcases hk with rfl | rfl
      · go_enter Tryz.func51, Tryz.ntmps51
        go_wp2_with fail
        go_ret3
        exact ⟨rfl, Below.refl _ _⟩
      · go_enter Tryz.func51, Tryz.ntmps51
        go_wp2_with fail
        go_ret3
        exact ⟨rfl, Below.refl _ _⟩
    · rw [if_neg hb] at h
      obtain ⟨r, hr, hrs, hsl⟩ := slice_to s b (by omega)
      simp only [Prod.mk.injEq] at h
      obtain ⟨h1, rfl, rfl⟩ := h
      obtain rfl : t = r := by apply ByteArray.ext; apply Array.ext'; rw [← h1, hr]
      have hb' : ¬ (s.size : Int) < (b : Int) := by omega
      have hts : Hid (t.size ≤ 281474976710656) := by show _ ≤ _; omega
      clear h1 hr hrs emp low hb hn0 hn
      rcases hk with rfl | rfl
      · go_enter Tryz.func51, Tryz.ntmps51
        go_wp2_with fail
        refine (clone_big t _ hts.out).mono ?_
        rintro e w1 ⟨rfl, hb1⟩
        go_wp2_with fail
        go_ret3
        exact ⟨rfl, hb1⟩
      · go_enter Tryz.func51, Tryz.ntmps51
        go_wp2_with fail
        refine (clone_big t _ hts.out).mono ?_
        rintro e w1 ⟨rfl, hb1⟩
        go_wp2_with fail
        go_ret3
        exact ⟨rfl, hb1⟩
  rcases hk with hk | hk | rfl | rfl
  · exact both (.inl hk)
  · exact both (.inr hk)
  · have HA : Hid (ans (runD start s.data.toList 0) = (t.data.toList, i, c)) := h
    clear h emp low both hn0 hn
    go_enter Tryz.func51, Tryz.ntmps51
    go_wp2_with fail
    refine (decode_at s t i c m HA.out _ HS.out HM.out).mono ?_
    rintro e w1 ⟨rfl, hb1⟩
    go_wp2_with fail
    go_ret3
    exact ⟨rfl, hb1⟩
  · have h' : (if 5000 < s.size then (([], 0, 2) : List UInt8 × Nat × Int) else (s.data.toList, s.size, 0)) = (t.data.toList, i, c) := by
      rw [← h]; simp [rbS]
    clear h
    by_cases hl : 5000 < s.size
    · rw [if_pos hl] at h'
      obtain ⟨rfl, rfl, rfl⟩ := emp _ h'
      have hb : (5000 : Int) < (s.size : Int) := by omega
      clear emp low both h' hl hn0 hn
      go_enter Tryz.func51, Tryz.ntmps51
      go_wp2_with fail
      go_ret3
      exact ⟨rfl, Below.refl _ _⟩
    · rw [if_neg hl] at h'
      simp only [Prod.mk.injEq] at h'
      obtain ⟨h1, rfl, rfl⟩ := h'
      obtain rfl : t = s := by apply ByteArray.ext; apply Array.ext'; exact h1.symm
      have hb : ¬ (5000 : Int) < (t.size : Int) := by omega
      have hts : Hid (t.size ≤ 281474976710656) := by show _ ≤ _; omega
      clear emp low both h1 hl hn0 hn
      go_enter Tryz.func51, Tryz.ntmps51
      go_wp2_with fail
      refine (clone_big t _ hts.out).mono ?_
      rintro e w1 ⟨rfl, hb1⟩
      go_wp2_with fail
      go_ret3
      exact ⟨rfl, hb1⟩

/-- How the fields of s are parsed in the world W. -/
def ParsesAt (s : ByteArray) (W : World) : Prop :=
  Calls Tryz.prog 50 #[.string s] W fun e w' => ∃ v, e = .returned (.tuple #[v, .int .i64 (parN s.data.toList), .int .i64 (parS s.data.toList []).2.2]) ∧
    w'.ownsRow W.heap.size 57 2 v (parS s.data.toList []).1.length (flds (parS s.data.toList []).1) ∧ Below W.heap.size W w'
/-- A slice of fields that the call made. -/
def FlO (B : Nat) (w : World) (v : Value) (ls : List Fld) : Prop := w.ownsRow B 57 2 v ls.length (flds ls)
theorem FlO.fl {B : Nat} {w : World} {v : Value} {ls : List Fld} (h : FlO B w v ls) : Fl w v ls := Fl.own h
theorem FlO.below {B : Nat} {w w' : World} {v : Value} {ls : List Fld} (h : FlO B w v ls) (hb : Below w.heap.size w w') : FlO B w' v ls := own_below3 h hb
theorem FlO.le {B B' : Nat} {w : World} {v : Value} {ls : List Fld} (h : FlO B w v ls) (hb : B' ≤ B) : FlO B' w v ls := own_le h hb
theorem FlO.nil (B : Nat) (w : World) : FlO B w (.slice none 0 0) [] := World.ownsRow_nil _ _ _ _
theorem FlO.set4 {B : Nat} {w : World} {v : Value} {ls : List Fld} (h : FlO B w v ls) {g : Nat} (hg : g < B) (a b c d : Value) : FlO B (set4 w g a b c d) v ls := by
  refine ⟨h.1, ?_⟩
  rcases h.2 with h0 | ⟨k, cap, cur, hv, hB, hk, h3⟩
  · exact .inl h0
  · exact .inr ⟨k, cap, cur, hv, hB, (set4_other (by omega)).trans hk, h3⟩
theorem parN_ok {l : List UInt8} (h : (parS l []).2.2 = 0) : parN l = ((l.length - (parS l []).2.1.length : Nat) : Int) := by
  unfold parN
  rw [if_pos h]
  have := par_rest' l
  omega
theorem ret_4 {v u : Value} {a b c d : Int} (h : a = b) (h' : c = d) : Ending.returned (.tuple #[v, u, .int .i64 a, .int .i64 c]) = .returned (.tuple #[v, u, .int .i64 b, .int .i64 d]) := by rw [h, h']
set_option maxHeartbeats 2000000 in
set_option maxRecDepth 100000 in
theorem rrest_of (req : Bool) (mm : ByteArray) (code : Int) (s t : ByteArray) (fs : List Fld) (i : Nat) (c : Int) (h : rdB (kd req mm.data.toList code) s.data.toList = (fs, t.data.toList, i, c)) (m : Int) (w : World) (hs : s.size ≤ maxLen) (hS : STabs w) (hm : w.cell? ⟨0, 0, none⟩ = some (.int .i64 m)) (hP : ∀ W : World, W.cell? ⟨0, 0, none⟩ = some (.int .i64 m) → ParsesAt s W) :
    Calls Tryz.prog 25 #[.agg #[.bool req, .string mm, .int .i64 code], .string s] w fun e w' => ∃ v, e = .returned (.tuple #[v, .string t, .int .i64 (i : Int), .int .i64 c]) ∧ FlO w.heap.size w' v fs ∧ Below w.heap.size w w' := by
  have HM : Hid (w.cell? ⟨0, 0, none⟩ = some (.int .i64 m)) := hm
  have HS : Hid (STabs w) := hS
  have HP : Hid (∀ W : World, W.cell? ⟨0, 0, none⟩ = some (.int .i64 m) → ParsesAt s W) := hP
  have HZ : Hid (s.size ≤ maxLen) := hs
  clear hm hS hP hs
  have emp : ∀ x : Int, ([], [], 0, x) = (fs, t.data.toList, i, c) → fs = [] ∧ t = ⟨#[]⟩ ∧ i = 0 ∧ c = x := by
    intro x hx
    simp only [Prod.mk.injEq] at hx
    exact ⟨hx.1.symm, by apply ByteArray.ext; apply Array.ext'; exact hx.2.1.symm, hx.2.2.1.symm, hx.2.2.2.symm⟩
  by_cases hc : (parS s.data.toList []).2.2 = 0
  · have hN := parN_ok hc
    have hle := par_rest' s.data.toList
    rw [size_list] at hle hN
    obtain ⟨r, hr, hrs, hsl⟩ := slice_from s (s.size - (parS s.data.toList []).2.1.length) (by omega)
    have hrl : r.data.toList = (parS s.data.toList []).2.1 := by
      rw [hr, ← size_list, par_drop _ hc]
    have hchk : chk (parS s.data.toList []).1 = 0 := ((parS_is s.data.toList _ _ _ rfl).2 hc).1
    have HB : Hid (bulkF (parS s.data.toList []).1 ≤ 1048576) := bulk_chk _ hchk
    obtain ⟨x, y, z, hk⟩ : ∃ x y z, kd req mm.data.toList code (parS s.data.toList []).1 = (x, y, z) := ⟨_, _, _, rfl⟩
    have HK : Hid (kd req mm.data.toList code (parS s.data.toList []).1 = (x, y, z)) := hk
    have HP2 : Hid (∀ o : Obj, Calls Tryz.prog 50 #[.string s] (w.alloc o) fun e w' => ∃ v, e = .returned (.tuple #[v, .int .i64 ((s.size - (parS s.data.toList []).2.1.length : Nat) : Int), .int .i64 0]) ∧ FlO (w.alloc o).heap.size w' v (parS s.data.toList []).1 ∧ Below (w.alloc o).heap.size (w.alloc o) w') := by
      intro o
      have := HP.out (w.alloc o) (cell_keep (below_alloc w o) HM.out)
      unfold ParsesAt at this
      rw [hc, hN] at this
      exact this
    obtain ⟨at_, hat⟩ : ∃ a : Nat, a = s.size - (parS s.data.toList []).2.1.length := ⟨_, rfl⟩
    rw [← hat] at hsl HP2
    have hatl : at_ ≤ s.size := by omega
    by_cases hz : z = 0
    · subst hz
      have hsh : (x = 1 ∨ x = 2 ∨ x = 3 ∨ x = 4) ∧ 0 ≤ y ∧ y ≤ 5000 := by
        rcases kd_ok req mm.data.toList code (parS s.data.toList []).1 with ⟨e, h1, h2⟩ | h1 | h1 | h1 | ⟨n, h1, h2⟩
        · rw [hk] at h1; simp only [Prod.mk.injEq] at h1; exact absurd h1.2.2.symm h2
        · rw [hk] at h1; simp only [Prod.mk.injEq] at h1; exact ⟨.inl h1.1, by omega, by omega⟩
        · rw [hk] at h1; simp only [Prod.mk.injEq] at h1; exact ⟨.inr (.inr (.inl h1.1)), by omega, by omega⟩
        · rw [hk] at h1; simp only [Prod.mk.injEq] at h1; exact ⟨.inr (.inr (.inr h1.1)), by omega, by omega⟩
        · rw [hk] at h1; simp only [Prod.mk.injEq] at h1; exact ⟨.inr (.inl h1.1), by omega, by omega⟩
      have hw := rdB_rb (kd_ok req mm.data.toList code) hc (by rw [hk])
      rw [h, hk] at hw
      simp only at hw
      rw [← hrl] at hw
      obtain ⟨u, j, f, hu⟩ : ∃ (u : ByteArray) (j : Nat) (f : Int), rbS x y r.data.toList = (u.data.toList, j, f) := ⟨⟨(rbS x y r.data.toList).1.toArray⟩, _, _, rfl⟩
      rw [hu] at hw
      have HU : Hid (rbS x y r.data.toList = (u.data.toList, j, f)) := hu
      have HSH : Hid ((x = 1 ∨ x = 2 ∨ x = 3 ∨ x = 4) ∧ 0 ≤ y ∧ y ≤ 5000) := hsh
      have HRS : Hid (r.size ≤ maxLen) := by show _ ≤ _; have := HZ.out; omega
      have hjl : j ≤ r.size := by
        have := rb_len (k := x) (n := y) (r := r.data.toList) hsh.2.1
        rw [hu, size_list] at this
        exact this
      have hsum : at_ + j ≤ s.size := by omega
      have hsz : s.size ≤ 9223372036854775807 := by have := HZ.out; unfold maxLen at this; omega
      by_cases hf0 : f = 0
      · subst hf0
        rw [if_neg (by simp)] at hw
        simp only [Prod.mk.injEq] at hw
        obtain ⟨rfl, hw1, hw2, rfl⟩ := hw
        obtain rfl : t = u := by apply ByteArray.ext; apply Array.ext'; exact hw1
        have HI : Hid ((at_ : Int) + (j : Int) = (i : Int)) := by
          show _ = _
          rw [hw2, hrl, size_list, ← hat]; omega
        clear h hc hk hsh hu emp hw1 hw2 hN hle hr hrs hrl hchk hat HP
        go_enter Tryz.func25, Tryz.ntmps25
        go_wp2_with fail
        refine (HP2.out _).mono ?_
        rintro e w1 ⟨v, rfl, hfl0, hb0⟩
        have c0 : w1.cell? ⟨w.heap.size, 0, none⟩ = some (.bool req) := new_cell hb0 0
        have c1 : w1.cell? ⟨w.heap.size, 1, none⟩ = some (.string mm) := new_cell hb0 1
        have c2 : w1.cell? ⟨w.heap.size, 2, none⟩ = some (.int .i64 code) := new_cell hb0 2
        have hfl := hfl0.le (show w.heap.size ≤ _ by simp)
        have hb1 := below_new hb0
        clear hb0 hfl0
        have HFL : Hid (FlO w.heap.size w1 v (parS s.data.toList []).1) := hfl
        clear hfl
        go_wp2_with fail
        refine (kindU_at req mm code v _ x y 0 HK.out _ HFL.out.fl HB.out (HS.out.below hb1)).mono ?_
        rintro e w2 ⟨rfl, hb2⟩
        have HFL2 : Hid (FlO w.heap.size w2 v (parS s.data.toList []).1) := HFL.out.below hb2
        have hw2 := hb1.trans (hb2.mono hb1.size)
        clear hb1 hb2 HFL
        have HM2 : Hid (w2.cell? ⟨0, 0, none⟩ = some (.int .i64 m)) := cell_keep hw2 HM.out
        go_wp2_with fail
        refine (rbody_at x y HSH.out.1 HSH.out.2.1 HSH.out.2.2 r t j 0 HU.out m _ HRS.out HM2.out).mono ?_
        rintro e w3 ⟨rfl, hb3⟩
        have HFL3 : Hid (FlO w.heap.size w3 v (parS s.data.toList []).1) := HFL2.out.below hb3
        have hw3 := hw2.trans (hb3.mono hw2.size)
        clear hw2 hb3
        go_wp2_with fail
        refine bodyPost_ret (results_four rfl _ _ _) rfl ?_
        exact ⟨v, ret_4 (by simpa using HI.out) rfl, HFL3.out, hw3⟩
      · rw [if_pos hf0] at hw
        obtain ⟨rfl, rfl, rfl, rfl⟩ := emp _ hw.symm
        have hfb : (c != 0) = true := by simpa using hf0
        clear h hc hk hsh hu emp hw hf0 hN hle hr hrs hrl hchk hat HP
        go_enter Tryz.func25, Tryz.ntmps25
        go_wp2_with fail
        refine (HP2.out _).mono ?_
        rintro e w1 ⟨v, rfl, hfl0, hb0⟩
        have c0 : w1.cell? ⟨w.heap.size, 0, none⟩ = some (.bool req) := new_cell hb0 0
        have c1 : w1.cell? ⟨w.heap.size, 1, none⟩ = some (.string mm) := new_cell hb0 1
        have c2 : w1.cell? ⟨w.heap.size, 2, none⟩ = some (.int .i64 code) := new_cell hb0 2
        have hfl := hfl0.le (show w.heap.size ≤ _ by simp)
        have hb1 := below_new hb0
        clear hb0 hfl0
        have HFL : Hid (FlO w.heap.size w1 v (parS s.data.toList []).1) := hfl
        clear hfl
        go_wp2_with fail
        refine (kindU_at req mm code v _ x y 0 HK.out _ HFL.out.fl HB.out (HS.out.below hb1)).mono ?_
        rintro e w2 ⟨rfl, hb2⟩
        have hw2 := hb1.trans (hb2.mono hb1.size)
        clear hb1 hb2 HFL
        have HM2 : Hid (w2.cell? ⟨0, 0, none⟩ = some (.int .i64 m)) := cell_keep hw2 HM.out
        go_wp2_with fail
        refine (rbody_at x y HSH.out.1 HSH.out.2.1 HSH.out.2.2 r u j c HU.out m _ HRS.out HM2.out).mono ?_
        rintro e w3 ⟨rfl, hb3⟩
        have hw3 := hw2.trans (hb3.mono hw2.size)
        clear hw2 hb3
        go_wp2_with fail
        refine bodyPost_ret (results_four rfl _ _ _) rfl ?_
        exact ⟨_, rfl, FlO.nil _ _, hw3⟩
    · have hw := rdB_err (K := kd req mm.data.toList code) hc (by rw [hk]; exact hz)
      rw [h, hk] at hw
      obtain ⟨rfl, rfl, rfl, rfl⟩ := emp _ hw.symm
      have hzb : (c != 0) = true := by simpa using hz
      clear h hc hk emp hw hz hN hle hr hrs hrl hchk hat HP hsl
      go_enter Tryz.func25, Tryz.ntmps25
      go_wp2_with fail
      refine (HP2.out _).mono ?_
      rintro e w1 ⟨v, rfl, hfl0, hb0⟩
      have c0 : w1.cell? ⟨w.heap.size, 0, none⟩ = some (.bool req) := new_cell hb0 0
      have c1 : w1.cell? ⟨w.heap.size, 1, none⟩ = some (.string mm) := new_cell hb0 1
      have c2 : w1.cell? ⟨w.heap.size, 2, none⟩ = some (.int .i64 code) := new_cell hb0 2
      have hfl := hfl0.le (show w.heap.size ≤ _ by simp)
      have hb1 := below_new hb0
      clear hb0 hfl0
      have HFL : Hid (FlO w.heap.size w1 v (parS s.data.toList []).1) := hfl
      clear hfl
      go_wp2_with fail
      refine (kindU_at req mm code v _ x y c HK.out _ HFL.out.fl HB.out (HS.out.below hb1)).mono ?_
      rintro e w2 ⟨rfl, hb2⟩
      have hw2 := hb1.trans (hb2.mono hb1.size)
      clear hb1 hb2 HFL
      go_wp2_with fail
      refine bodyPost_ret (results_four rfl _ _ _) rfl ?_
      exact ⟨_, rfl, FlO.nil _ _, hw2⟩
  · have hw := rdB_bad (K := kd req mm.data.toList code) hc
    rw [h] at hw
    obtain ⟨rfl, rfl, rfl, rfl⟩ := emp _ hw.symm
    have hcb : ((parS s.data.toList []).2.2 != 0) = true := by simpa using hc
    have HP2 : ∀ o : Obj, ParsesAt s (w.alloc o) := fun o => HP.out (w.alloc o) (cell_keep (below_alloc w o) HM.out)
    unfold ParsesAt at HP2
    obtain ⟨q, hq⟩ : ∃ q, q = (parS s.data.toList []).2.2 := ⟨_, rfl⟩
    rw [← hq] at hcb HP2 ⊢
    have HP3 : Hid _ := HP2
    clear h hc emp hw hq HP HP2
    go_enter Tryz.func25, Tryz.ntmps25
    go_wp2_with fail
    refine (HP3.out _).mono ?_
    rintro e w1 ⟨v, rfl, hfl0, hb0⟩
    have hb1 := below_new hb0
    clear hb0 hfl0
    clear HP3
    go_wp2_with fail
    refine bodyPost_ret (results_four rfl _ _ _) rfl ?_
    exact ⟨_, rfl, FlO.nil _ _, hb1⟩
end Go.Proofs.YtipfjpihciiikaaGreatDoor

/-
  What ReadRequest of package msg computes; how the first line and the fields are parsed is told by hypotheses; then of texts of less than 2^32 - 15 bytes.
-/
namespace Go.Proofs.YtipfjpihciiikaaGreatDoor
open Go.RowKit

abbrev KQr : List UInt8 → Kd := fun m => kd true m 0
/-- How the first line of s is parsed in the world W. -/
def LinesAt (s : ByteArray) (W : World) : Prop :=
  Calls Tryz.prog 24 #[.string s] W fun e w' => e = .returned (.tuple #[.string ⟨(paR s.data.toList).1.1.toArray⟩, .string ⟨(paR s.data.toList).1.2.toArray⟩, .int .i64 (paR s.data.toList).2.1, .int .i64 (paR s.data.toList).2.2]) ∧ Below W.heap.size W w'
theorem ret_q {a b c : ByteArray} {v v' : Value} {a' b' c' : ByteArray} {i j k l : Int} (h1 : a = a') (h2 : b = b') (h3 : v = v') (h4 : c = c') (h5 : i = j) (h6 : k = l) :
    Ending.returned (.tuple #[.agg #[.string a, .string b, v, .string c], .int .i64 i, .int .i64 k]) = .returned (.tuple #[.agg #[.string a', .string b', v', .string c'], .int .i64 j, .int .i64 l]) := by rw [h1, h2, h3, h4, h5, h6]
theorem paR_num {s : List UInt8} (h : (paR s).2.2 = 0) : 0 ≤ (paR s).2.1 ∧ (paR s).2.1 ≤ s.length := by
  rcases paR_two s with ⟨c, hc, he⟩ | ⟨m, t, r, _, _, hs, he⟩
  · rw [he] at h; exact absurd h hc
  · rw [he]
    have := congrArg List.length hs
    simp only [List.length_append, List.length_cons] at this
    simp only
    omega
set_option maxHeartbeats 2000000 in
set_option maxRecDepth 100000 in
theorem readQ_of (s x y t : ByteArray) (fs : List Fld) (i : Nat) (c : Int) (h : rdQ KQr s.data.toList = ((x.data.toList, y.data.toList), fs, t.data.toList, i, c)) (m : Int) (w : World) (hs : s.size ≤ maxLen) (hS : STabs w) (hm : w.cell? ⟨0, 0, none⟩ = some (.int .i64 m))
    (hL : ∀ W : World, W.cell? ⟨0, 0, none⟩ = some (.int .i64 m) → LinesAt s W) (hP : (paR s.data.toList).2.2 = 0 → ∀ (r : ByteArray) (W : World), r.data.toList = s.data.toList.drop (paR s.data.toList).2.1.toNat → W.cell? ⟨0, 0, none⟩ = some (.int .i64 m) → ParsesAt r W) :
    Calls Tryz.prog 11 #[.string s] w fun e w' => ∃ v, e = .returned (.tuple #[.agg #[.string x, .string y, v, .string t], .int .i64 (i : Int), .int .i64 c]) ∧ FlO w.heap.size w' v fs ∧ Below w.heap.size w w' := by
  have HM : Hid (w.cell? ⟨0, 0, none⟩ = some (.int .i64 m)) := hm
  have HS : Hid (STabs w) := hS
  have HL : Hid (∀ W : World, W.cell? ⟨0, 0, none⟩ = some (.int .i64 m) → LinesAt s W) := hL
  have HZ : Hid (s.size ≤ maxLen) := hs
  clear hm hS hL hs
  have emp : ∀ z : Int, (([], []), [], [], 0, z) = ((x.data.toList, y.data.toList), fs, t.data.toList, i, c) → x = ⟨#[]⟩ ∧ y = ⟨#[]⟩ ∧ fs = [] ∧ t = ⟨#[]⟩ ∧ i = 0 ∧ c = z := by
    intro z hx
    simp only [Prod.mk.injEq] at hx
    obtain ⟨⟨h1, h2⟩, h3, h4, h5, h6⟩ := hx
    exact ⟨by apply ByteArray.ext; apply Array.ext'; exact h1.symm, by apply ByteArray.ext; apply Array.ext'; exact h2.symm, h3.symm, by apply ByteArray.ext; apply Array.ext'; exact h4.symm, h5.symm, h6.symm⟩
  obtain ⟨p, q, n, d, hp⟩ : ∃ (p q : ByteArray) (n d : Int), paR s.data.toList = ((p.data.toList, q.data.toList), n, d) := ⟨⟨(paR s.data.toList).1.1.toArray⟩, ⟨(paR s.data.toList).1.2.toArray⟩, _, _, rfl⟩
  have HL2 : Hid (∀ o : Obj, Calls Tryz.prog 24 #[.string s] (w.alloc o) fun e w' => e = .returned (.tuple #[.string p, .string q, .int .i64 n, .int .i64 d]) ∧ Below (w.alloc o).heap.size (w.alloc o) w') := by
    intro o
    have := HL.out (w.alloc o) (cell_keep (below_alloc w o) HM.out)
    unfold LinesAt at this
    rw [hp] at this
    exact this
  unfold rdQ at h
  rw [hp] at h
  simp only at h
  by_cases hd : d = 0
  · subst hd
    rw [if_neg (by simp)] at h
    have hn := paR_num (s := s.data.toList) (by rw [hp])
    rw [hp, size_list] at hn
    simp only at hn
    obtain ⟨a, rfl⟩ : ∃ a : Nat, n = (a : Int) := ⟨n.toNat, by omega⟩
    obtain ⟨r, hr, hrs, hsl⟩ := slice_from s a (by omega)
    have HPP : Hid (∀ W : World, W.cell? ⟨0, 0, none⟩ = some (.int .i64 m) → ParsesAt r W) := fun W hW => hP (by rw [hp]) r W (by rw [hp]; simpa using hr) hW
    rw [Int.toNat_natCast, ← hr] at h
    obtain ⟨gs, u, j, f, hu⟩ : ∃ (gs : List Fld) (u : ByteArray) (j : Nat) (f : Int), rdB (KQr p.data.toList) r.data.toList = (gs, u.data.toList, j, f) := ⟨_, ⟨(rdB (KQr p.data.toList) r.data.toList).2.1.toArray⟩, _, _, rfl⟩
    have HU : Hid (rdB (kd true p.data.toList 0) r.data.toList = (gs, u.data.toList, j, f)) := hu
    rw [hu] at h
    simp only at h
    have HRS : Hid (r.size ≤ maxLen) := by show _ ≤ _; have := HZ.out; omega
    have hsz : s.size ≤ 9223372036854775807 := by have := HZ.out; unfold maxLen at this; omega
    have hal : a ≤ s.size := by omega
    by_cases hf0 : f = 0
    · subst hf0
      rw [if_neg (by simp)] at h
      simp only [Prod.mk.injEq] at h
      obtain ⟨⟨h1, h2⟩, rfl, h4, h5, rfl⟩ := h
      obtain rfl : x = p := by apply ByteArray.ext; apply Array.ext'; exact h1.symm
      obtain rfl : y = q := by apply ByteArray.ext; apply Array.ext'; exact h2.symm
      obtain rfl : t = u := by apply ByteArray.ext; apply Array.ext'; exact h4.symm
      have hj : j ≤ r.size := by
        have := (rdB_is (kd_ok true x.data.toList 0) r.data.toList (kd_four x.data.toList 0)).2 (by rw [hu])
        rw [hu, size_list] at this
        exact this.2
      have hsum : a + j ≤ s.size := by omega
      have HI : Hid ((a : Int) + (j : Int) = (i : Int)) := by show _ = _; omega
      clear hp h1 h2 h4 h5 hu hr hrs emp HL hP hn
      go_enter Tryz.func11, Tryz.ntmps11
      go_wp2_with fail
      refine (HL2.out _).mono ?_
      rintro e w1 ⟨rfl, hb0⟩
      have hz1 := hb0.size
      rw [World.size_alloc] at hz1
      have hk1 := (hb0.block w.heap.size (by simp)).trans (heap_alloc_new _ _)
      have hb1 := below_new hb0
      clear hb0
      have HM1 : Hid (w1.cell? ⟨0, 0, none⟩ = some (.int .i64 m)) := cell_keep hb1 HM.out
      go_wp2_with fail
      refine (rrest_of true x 0 r t gs j 0 HU.out m _ HRS.out (HS.out.below hb1) HM1.out HPP.out).mono ?_
      rintro e w2 ⟨v, rfl, hfl, hb2⟩
      obtain ⟨ad, cap, rfl, _⟩ := own_form2 hfl
      have HFL : Hid (FlO (w.heap.size + 1) w2 (.slice ad gs.length cap) gs) := hfl.le hz1
      have hk2 := (hb2.block w.heap.size (by omega)).trans hk1
      clear hk1
      have hw2 := hb1.trans (hb2.mono hb1.size)
      clear hb1 hb2 hfl
      have z0 := Lib.frozen_of_heap hk2 0
      have z1 := Lib.frozen_of_heap hk2 1
      have z2 := Lib.frozen_of_heap hk2 2
      have z3 := Lib.frozen_of_heap hk2 3
      have c0 : w2.cell? ⟨w.heap.size, 0, none⟩ = some (.string ⟨#[]⟩) := by simp [World.cell?, hk2]
      have c1 : w2.cell? ⟨w.heap.size, 1, none⟩ = some (.string ⟨#[]⟩) := by simp [World.cell?, hk2]
      have c2 : w2.cell? ⟨w.heap.size, 2, none⟩ = some (.slice none 0 0) := by simp [World.cell?, hk2]
      have c3 : w2.cell? ⟨w.heap.size, 3, none⟩ = some (.string ⟨#[]⟩) := by simp [World.cell?, hk2]
      have HK2 : Hid (w2.heap[w.heap.size]? = _) := hk2
      clear hk2
      go_wp2_with fail
      have e0 := set4_cell (a := .string x) (b := .string y) (c := .slice ad gs.length cap) (d := .string t) HK2.out 0
      have e1 := set4_cell (a := .string x) (b := .string y) (c := .slice ad gs.length cap) (d := .string t) HK2.out 1
      have e2 := set4_cell (a := .string x) (b := .string y) (c := .slice ad gs.length cap) (d := .string t) HK2.out 2
      have e3 := set4_cell (a := .string x) (b := .string y) (c := .slice ad gs.length cap) (d := .string t) HK2.out 3
      have hfin := HFL.out.set4 (show w.heap.size < w.heap.size + 1 by omega) (.string x) (.string y) (.slice ad gs.length cap) (.string t)
      have hbl := set4_below (.string x) (.string y) (.slice ad gs.length cap) (.string t) hw2 (Nat.le_refl _)
      change bodyPost _ _ _ _ _ (set4 w2 w.heap.size (.string x) (.string y) (.slice ad gs.length cap) (.string t))
      generalize set4 w2 w.heap.size (.string x) (.string y) (.slice ad gs.length cap) (.string t) = w3 at e0 e1 e2 e3 hfin hbl ⊢
      refine bodyPost_ret (v := .tuple #[.agg #[.string x, .string y, .slice ad gs.length cap, .string t], .int .i64 ((a : Int) + j), .int .i64 0]) (by simp [results, Tryz.results11, go_sem, e0, e1, e2, e3]) rfl ?_
      exact ⟨_, ret_q rfl rfl rfl rfl HI.out rfl, hfin.le (by omega), hbl⟩
    · rw [if_pos hf0] at h
      obtain ⟨rfl, rfl, rfl, rfl, rfl, rfl⟩ := emp _ h
      have hfb : (c != 0) = true := by simpa using hf0
      clear hp h hu hr hrs emp HL hP hn hf0
      go_enter Tryz.func11, Tryz.ntmps11
      go_wp2_with fail
      refine (HL2.out _).mono ?_
      rintro e w1 ⟨rfl, hb0⟩
      have hz1 := hb0.size
      rw [World.size_alloc] at hz1
      have hk1 := (hb0.block w.heap.size (by simp)).trans (heap_alloc_new _ _)
      have hb1 := below_new hb0
      clear hb0
      have HM1 : Hid (w1.cell? ⟨0, 0, none⟩ = some (.int .i64 m)) := cell_keep hb1 HM.out
      go_wp2_with fail
      refine (rrest_of true p 0 r u gs j c HU.out m _ HRS.out (HS.out.below hb1) HM1.out HPP.out).mono ?_
      rintro e w2 ⟨v, rfl, hfl, hb2⟩
      have hk2 := (hb2.block w.heap.size (by omega)).trans hk1
      have hw2 := hb1.trans (hb2.mono hb1.size)
      clear hb1 hb2 hfl hk1
      have z0 := Lib.frozen_of_heap hk2 0
      have z1 := Lib.frozen_of_heap hk2 1
      have z2 := Lib.frozen_of_heap hk2 2
      have z3 := Lib.frozen_of_heap hk2 3
      have c0 : w2.cell? ⟨w.heap.size, 0, none⟩ = some (.string ⟨#[]⟩) := by simp [World.cell?, hk2]
      have c1 : w2.cell? ⟨w.heap.size, 1, none⟩ = some (.string ⟨#[]⟩) := by simp [World.cell?, hk2]
      have c2 : w2.cell? ⟨w.heap.size, 2, none⟩ = some (.slice none 0 0) := by simp [World.cell?, hk2]
      have c3 : w2.cell? ⟨w.heap.size, 3, none⟩ = some (.string ⟨#[]⟩) := by simp [World.cell?, hk2]
      have HK2 : Hid (w2.heap[w.heap.size]? = _) := hk2
      clear hk2
      go_wp2_with fail
      have e0 := set4_cell (a := .string ⟨#[]⟩) (b := .string ⟨#[]⟩) (c := .slice none 0 0) (d := .string ⟨#[]⟩) HK2.out 0
      have e1 := set4_cell (a := .string ⟨#[]⟩) (b := .string ⟨#[]⟩) (c := .slice none 0 0) (d := .string ⟨#[]⟩) HK2.out 1
      have e2 := set4_cell (a := .string ⟨#[]⟩) (b := .string ⟨#[]⟩) (c := .slice none 0 0) (d := .string ⟨#[]⟩) HK2.out 2
      have e3 := set4_cell (a := .string ⟨#[]⟩) (b := .string ⟨#[]⟩) (c := .slice none 0 0) (d := .string ⟨#[]⟩) HK2.out 3
      have hbl := set4_below (.string ⟨#[]⟩) (.string ⟨#[]⟩) (.slice none 0 0) (.string ⟨#[]⟩) hw2 (Nat.le_refl _)
      change bodyPost _ _ _ _ _ (set4 w2 w.heap.size (.string ⟨#[]⟩) (.string ⟨#[]⟩) (.slice none 0 0) (.string ⟨#[]⟩))
      generalize set4 w2 w.heap.size (.string ⟨#[]⟩) (.string ⟨#[]⟩) (.slice none 0 0) (.string ⟨#[]⟩) = w9 at e0 e1 e2 e3 hbl ⊢
      refine bodyPost_ret (v := .tuple #[.agg #[.string ⟨#[]⟩, .string ⟨#[]⟩, .slice none 0 0, .string ⟨#[]⟩], .int .i64 0, .int .i64 c]) (by simp [results, Tryz.results11, go_sem, e0, e1, e2, e3]) rfl ?_
      exact ⟨_, rfl, FlO.nil _ _, hbl⟩
  · rw [if_pos hd] at h
    obtain ⟨rfl, rfl, rfl, rfl, rfl, rfl⟩ := emp _ h
    have hdb : (c != 0) = true := by simpa using hd
    clear hp h emp HL hP hd
    go_enter Tryz.func11, Tryz.ntmps11
    go_wp2_with fail
    refine (HL2.out _).mono ?_
    rintro e w1 ⟨rfl, hb0⟩
    have hk1 := (hb0.block w.heap.size (by simp)).trans (heap_alloc_new _ _)
    have hb1 := below_new hb0
    clear hb0
    have z0 := Lib.frozen_of_heap hk1 0
    have z1 := Lib.frozen_of_heap hk1 1
    have z2 := Lib.frozen_of_heap hk1 2
    have z3 := Lib.frozen_of_heap hk1 3
    have c0 : w1.cell? ⟨w.heap.size, 0, none⟩ = some (.string ⟨#[]⟩) := by simp [World.cell?, hk1]
    have c1 : w1.cell? ⟨w.heap.size, 1, none⟩ = some (.string ⟨#[]⟩) := by simp [World.cell?, hk1]
    have c2 : w1.cell? ⟨w.heap.size, 2, none⟩ = some (.slice none 0 0) := by simp [World.cell?, hk1]
    have c3 : w1.cell? ⟨w.heap.size, 3, none⟩ = some (.string ⟨#[]⟩) := by simp [World.cell?, hk1]
    have HK2 : Hid (w1.heap[w.heap.size]? = _) := hk1
    clear hk1
    go_wp2_with fail
    have e0 := set4_cell (a := .string ⟨#[]⟩) (b := .string ⟨#[]⟩) (c := .slice none 0 0) (d := .string ⟨#[]⟩) HK2.out 0
    have e1 := set4_cell (a := .string ⟨#[]⟩) (b := .string ⟨#[]⟩) (c := .slice none 0 0) (d := .string ⟨#[]⟩) HK2.out 1
    have e2 := set4_cell (a := .string ⟨#[]⟩) (b := .string ⟨#[]⟩) (c := .slice none 0 0) (d := .string ⟨#[]⟩) HK2.out 2
    have e3 := set4_cell (a := .string ⟨#[]⟩) (b := .string ⟨#[]⟩) (c := .slice none 0 0) (d := .string ⟨#[]⟩) HK2.out 3
    have hbl := set4_below (.string ⟨#[]⟩) (.string ⟨#[]⟩) (.slice none 0 0) (.string ⟨#[]⟩) hb1 (Nat.le_refl _)
    change bodyPost _ _ _ _ _ (set4 w1 w.heap.size (.string ⟨#[]⟩) (.string ⟨#[]⟩) (.slice none 0 0) (.string ⟨#[]⟩))
    generalize set4 w1 w.heap.size (.string ⟨#[]⟩) (.string ⟨#[]⟩) (.slice none 0 0) (.string ⟨#[]⟩) = w9 at e0 e1 e2 e3 hbl ⊢
    refine bodyPost_ret (v := .tuple #[.agg #[.string ⟨#[]⟩, .string ⟨#[]⟩, .slice none 0 0, .string ⟨#[]⟩], .int .i64 0, .int .i64 c]) (by simp [results, Tryz.results11, go_sem, e0, e1, e2, e3]) rfl ?_
    exact ⟨_, rfl, FlO.nil _ _, hbl⟩
theorem linesQ_at (s : ByteArray) (hs : s.size < 4294967281) (m : Int) (W : World) (hW : W.cell? ⟨0, 0, none⟩ = some (.int .i64 m)) : LinesAt s W := parseR_at s _ _ _ _ rfl m W hW hs
theorem parsesF_at (s : ByteArray) (hs : s.size < 4294967281) (m : Int) (W : World) (hW : W.cell? ⟨0, 0, none⟩ = some (.int .i64 m)) : ParsesAt s W := parse_any s m W hW hs
theorem readQ_at (s x y t : ByteArray) (fs : List Fld) (i : Nat) (c : Int) (h : rdQ KQr s.data.toList = ((x.data.toList, y.data.toList), fs, t.data.toList, i, c)) (m : Int) (w : World) (hs : s.size < 4294967281) (hS : STabs w) (hm : w.cell? ⟨0, 0, none⟩ = some (.int .i64 m)) :
    Calls Tryz.prog 11 #[.string s] w fun e w' => ∃ v, e = .returned (.tuple #[.agg #[.string x, .string y, v, .string t], .int .i64 (i : Int), .int .i64 c]) ∧ FlO w.heap.size w' v fs ∧ Below w.heap.size w w' :=
  readQ_of s x y t fs i c h m w (by unfold maxLen; omega) hS hm (fun W hW => linesQ_at s hs m W hW) (fun _ r W hr hW => parsesF_at r (by rw [← size_list, hr, List.length_drop, size_list]; omega) m W hW)
end Go.Proofs.YtipfjpihciiikaaGreatDoor

/-
  The end of a chunk's line, in plain lists; no program is named here.
-/
namespace Go.Proofs.YtipfjpihciiikaaGreatDoor
open Go.RowKit

def Fin2 (l : List UInt8) (k n : Nat) : Prop := k ≤ l.length ∧ (∀ r, l.drop k = 13 :: 10 :: r → HeadR l n (k + 2)) ∧ ((l.drop k = [] ∨ l.drop k = [13]) → ShortR l) ∧ ((∀ r, l.drop k ≠ 13 :: 10 :: r) → l.drop k ≠ [] → l.drop k ≠ [13] → BadR l)
theorem fin_num {l : List UInt8} {k n : Nat} {c : UInt8} (h : NumS l k n) (hk : 0 < k) (hc : l[k]? = some c) (h4 : 4 ≤ k ∨ hv c = none) (h59 : c ≠ 59) : Fin2 l k n := by
  obtain ⟨hd, hl⟩ := drop_at hc
  refine ⟨h.2.1, fun r hr => nm_end h hk hr, fun hr => ?_, fun h1 h2 h3 => ?_⟩
  · rcases hr with hr | hr
    · rw [hd] at hr; cases hr
    · exact nm_cr h hk hr
  · by_cases h13 : c = 13
    · subst h13
      generalize hz : l.drop (k + 1) = z at hd
      cases z with
      | nil => exact absurd hd h3
      | cons b z =>
        refine nm_cr_bad h hk hd ?_
        rintro rfl
        exact h1 z hd
    · exact nm_bad h hd h4 h59 h13
theorem fin_ext {l : List UInt8} {m n k : Nat} (h : ExtS l m n k) (he : 50 ≤ m ∨ k = l.length ∨ ∃ c, l[k]? = some c ∧ plainB c = false) : Fin2 l k n := by
  refine ⟨h.2.1, fun r hr => ext_end h hr, fun hr => ext_short h hr, fun h1 h2 h3 => ?_⟩
  generalize hz : l.drop k = z at *
  cases z with
  | nil => exact absurd rfl h2
  | cons c z =>
    by_cases h13 : c = 13
    · subst h13
      cases z with
      | nil => exact absurd rfl h3
      | cons b z =>
        refine ext_cr_bad h hz ?_
        rintro rfl
        exact h1 z rfl
    · refine ext_bad h hz ?_ h13
      rcases he with he | he | ⟨d, he, hp⟩
      · exact .inl he
      · rw [he, List.drop_length] at hz; cases hz
      · right
        obtain ⟨hd, _⟩ := drop_at he
        rw [hz] at hd
        injection hd with hd _
        rw [hd]; exact hp
theorem fin_cases {l : List UInt8} {k n : Nat} (h : Fin2 l k n) : (Lib.hasPrefix (l.drop k) [13, 10] = true ∧ HeadR l n (k + 2)) ∨ (Lib.hasPrefix (l.drop k) [13, 10] = false ∧ Lib.hasPrefix [13, 10] (l.drop k) = true ∧ ShortR l) ∨ (Lib.hasPrefix (l.drop k) [13, 10] = false ∧ Lib.hasPrefix [13, 10] (l.drop k) = false ∧ BadR l) := by
  obtain ⟨_, h1, h2, h3⟩ := h
  generalize l.drop k = z at *
  match z with
  | [] => exact .inr (.inl ⟨rfl, rfl, h2 (.inl rfl)⟩)
  | [c] =>
    by_cases hc : c = 13
    · subst hc; exact .inr (.inl ⟨by decide, by decide, h2 (.inr rfl)⟩)
    · refine .inr (.inr ⟨?_, ?_, h3 (by simp) (by simp) (by simpa using hc)⟩)
      · simp [Lib.hasPrefix, List.isPrefixOf]
      · simp [Lib.hasPrefix, List.isPrefixOf, hc]
  | c :: b :: r =>
    by_cases hc : c = 13 ∧ b = 10
    · obtain ⟨rfl, rfl⟩ := hc
      exact .inl ⟨by simp [Lib.hasPrefix, List.isPrefixOf], h1 r rfl⟩
    · refine .inr (.inr ⟨?_, ?_, h3 (fun q hq => hc ?_) (by simp) (by simp)⟩)
      · simp only [Lib.hasPrefix, List.isPrefixOf, Bool.and_eq_false_iff, Bool.and_true]
        by_cases h5 : c = 13
        · right; rw [beq_eq_false_iff_ne]; exact fun h => hc ⟨h5, h.symm⟩
        · left; rw [beq_eq_false_iff_ne]; exact fun h => h5 h.symm
      · cases r with
        | nil =>
          simp only [Lib.hasPrefix, List.isPrefixOf, Bool.and_eq_false_iff, Bool.and_true]
          by_cases h5 : c = 13
          · right; rw [beq_eq_false_iff_ne]; exact fun h => hc ⟨h5, h⟩
          · left; rw [beq_eq_false_iff_ne]; exact h5
        | cons d r => simp [Lib.hasPrefix, List.isPrefixOf]
      · injection hq with h5 h6
        injection h6 with h6 _
        exact ⟨h5, h6⟩
def HdQ (l : List UInt8) (n k : Nat) (e : Int) : Prop := (e = 8 ∧ ShortR l) ∨ (e = 3 ∧ BadR l) ∨ (e = 0 ∧ HeadR l n k)
theorem take_two {z : List UInt8} : (z.take 2 = [13] → z = [13]) ∧ (z.take 2 = [13, 10] → ∃ q, z = 13 :: 10 :: q) ∧ (z.take 2 ≠ [13, 10] → ∀ q, z ≠ 13 :: 10 :: q) := by
  refine ⟨fun h => ?_, fun h => ?_, fun h q hq => h (by rw [hq]; rfl)⟩
  · match z with
    | [] => simp at h
    | [c] => simpa using h
    | c :: b :: r => simp at h
  · match z with
    | [] => simp at h
    | [c] => simp at h
    | c :: b :: r =>
      simp at h
      exact ⟨r, by rw [h.1, h.2]⟩
theorem fpar_rest : ∀ (n : Nat) (s : List UInt8) (acc : List Fld), (fpar n s acc).2.1.length ≤ s.length
  | 0, _, _ => by simp [fpar]
  | n + 1, s, acc => by
    rw [fpar]
    cases hp : pstep s acc with
    | inr x =>
      obtain ⟨rest, acc'⟩ := x
      have h1 := pstep_short s acc rest acc' hp
      have h2 := fpar_rest n rest acc'
      simp only
      omega
    | inl r =>
      simp only
      unfold pstep at hp
      split at hp
      · cases hp; simp
      · split at hp
        · cases hp; simp only [List.length_drop]; omega
        · split at hp
          · cases hp; simp
          · split at hp
            · cases hp
            · cases hp; simp
theorem par_rest (s : List UInt8) (acc : List Fld) : (parS s acc).2.1.length ≤ s.length := fpar_rest _ _ _
theorem hexset (c : UInt8) : [48, 49, 50, 51, 52, 53, 54, 55, 56, 57, 97, 98, 99, 100, 101, 102, 65, 66, 67, 68, 69, 70].contains c = (hv c).isSome := by
  have := byAll (fun c => decide ([48, 49, 50, 51, 52, 53, 54, 55, 56, 57, 97, 98, 99, 100, 101, 102, 65, 66, 67, 68, 69, 70].contains c = (hv c).isSome)) (by decide +kernel) c
  exact of_decide_eq_true this
theorem hexidx (c : UInt8) : ((hv c).isSome = true → Lib.indexByte [48, 49, 50, 51, 52, 53, 54, 55, 56, 57, 97, 98, 99, 100, 101, 102] (low c) = (((hv c).getD 0 : Nat) : Int)) := by
  have := byAll (fun c => decide ((hv c).isSome = true → Lib.indexByte [48, 49, 50, 51, 52, 53, 54, 55, 56, 57, 97, 98, 99, 100, 101, 102] (low c) = (((hv c).getD 0 : Nat) : Int))) (by decide +kernel) c
  exact of_decide_eq_true this
end Go.Proofs.YtipfjpihciiikaaGreatDoor

/-
  What chunkHead of the document's answers computes: a chunk's line; the text fits in the memory that Go's limits allow.
-/
namespace Go.Proofs.YtipfjpihciiikaaGreatDoor
open Go.RowKit

theorem hexin_at (c : UInt8) (b : Bool) (hb : (hv c).isSome = b) (w : World) :
    Calls Tryz.prog 108 #[.string ⟨#[48, 49, 50, 51, 52, 53, 54, 55, 56, 57, 97, 98, 99, 100, 101, 102, 65, 66, 67, 68, 69, 70]⟩, .string ⟨#[c]⟩] w fun e w' => e = .returned (.bool b) ∧ w' = w := by
  refine (Tryz.strings_Contains_one _ _ _).mono ?_
  rintro e w' ⟨rfl, rfl⟩
  refine ⟨ret_bool ?_, rfl⟩
  rw [← Lib.contains_iff_indexByte, ← hb]
  exact hexset c
theorem hexat_at (c : UInt8) (v : Nat) (hb : hv c = some v) (w : World) :
    Calls Tryz.prog 113 #[.string ⟨#[48, 49, 50, 51, 52, 53, 54, 55, 56, 57, 97, 98, 99, 100, 101, 102]⟩, .int .u8 ((low c).toNat : Int)] w fun e w' => e = .returned (.int .i64 (v : Int)) ∧ w' = w := by
  refine (Tryz.strings_IndexByte _ _ _).mono ?_
  rintro e w' ⟨rfl, rfl⟩
  refine ⟨?_, rfl⟩
  rw [u8_back]
  have h := hexidx c (by rw [hb]; rfl)
  rw [hb] at h
  exact congrArg (fun x => Ending.returned (.int .i64 x)) h
theorem rlower_one (c : UInt8) (w : World) : Calls Tryz.prog 80 #[.string ⟨#[c]⟩] w fun e w' => e = .returned (.string ⟨#[low c]⟩) ∧ w' = w := by
  refine (rlower_any ⟨#[c]⟩ w (by show 1 ≤ _; omega)).mono ?_
  rintro e w' ⟨rfl, rfl⟩
  exact ⟨rfl, rfl⟩
theorem rplain_one (c : UInt8) (b : Bool) (hb : plainB c = b) (w : World) : Calls Tryz.prog 42 #[.string ⟨#[c]⟩] w fun e w' => e = .returned (.bool b) ∧ w' = w := by
  refine (rplain_any ⟨#[c]⟩ w (by show 1 ≤ _; unfold maxLen; omega)).mono ?_
  rintro e w' ⟨rfl, rfl⟩
  refine ⟨ret_bool ?_, rfl⟩
  rw [← hb]; simp [allPlain]
theorem ret_iii {a b c d e f : Int} (h : a = b) (h' : c = d) (h'' : e = f) : Ending.returned (.tuple #[.int .i64 a, .int .i64 c, .int .i64 e]) = .returned (.tuple #[.int .i64 b, .int .i64 d, .int .i64 f]) := by rw [h, h', h'']
theorem bt_at (s : ByteArray) (k : Nat) (h : k < s.size) : s.data.toList[k]? = some s[k] := by
  rw [List.getElem?_eq_getElem (by rw [size_list]; exact h)]; rfl

set_option maxHeartbeats 8000000 in
set_option maxRecDepth 100000 in
theorem rhead_any (s : ByteArray) (w : World) (hs : s.size ≤ 140737488351232) :
    Calls Tryz.prog 92 #[.string s] w fun e w' => ∃ (n k : Nat) (c : Int), e = .returned (.tuple #[.int .i64 (n : Int), .int .i64 (k : Int), .int .i64 c]) ∧ HdQ s.data.toList n k c ∧ w' = w := by
  have HSL : Hid (s.data.toList.length = s.size) := size_list s
  go_enter Tryz.func92, Tryz.ntmps92
  go_wp2_with fail
  go_loop [5, 6] (fun nv kv => ∃ n k : Nat, nv = .int .i64 n ∧ kv = .int .i64 k ∧ k ≤ s.size ∧ k ≤ 4 ∧ n < 65536 ∧ (k < 4 → n < 4096) ∧ NumS s.data.toList k n) (fun _ kv => 4 - (intOf kv).toNat)
  case atStart => exact ⟨0, 0, rfl, rfl, Nat.zero_le _, by omega, by omega, fun _ => by omega, nm_zero _⟩
  case round =>
    obtain ⟨n, k, rfl, rfl, hk, hk4, hn, hn4, hnum⟩ := hrel
    have HN : Hid (NumS s.data.toList k n) := hnum
    clear hnum
    by_cases hlt : k < s.size
    · have hki : (k : Int) < (s.size : Int) := by omega
      have hne : ((k : Int) == (s.size : Int)) = false := by rw [beq_eq_false_iff_ne]; omega
      have HX := extract_one s k hlt
      have HXX : Hid (s.extract k (k + 1) = ⟨#[s[k]]⟩) := HX
      clear HX
      have HG : Hid (s.data.toList[k]? = some s[k]) := bt_at s k hlt
      obtain ⟨r, hr⟩ : ∃ r : ByteArray, r = s.extract k s.size := ⟨_, rfl⟩
      have HR : Hid (r.data.toList = s.data.toList.drop k) := by
        show _ = _
        rw [hr, Lib.extract_data, List.take_of_length_le (by rw [List.length_drop, HSL.out]; omega)]
      have hsl : ∀ w, (Instr.slice 9 (.string s) (some (.int .i64 (k : Int))) none none).run Tryz.prog w = .ok (.string r) w := fun w => by
        rw [run_slice_string_l w 9 s Tryz.underlying9 .i64 (k : Int) (by omega) (by omega), hr]; rfl
      clear hr
      by_cases hgo : k < 4 ∧ (hv s[k]).isSome = true
      · obtain ⟨hk3, hh⟩ := hgo
        obtain ⟨v, hv1⟩ := Option.isSome_iff_exists.1 hh
        have HH : Hid ((hv s[k]).isSome = true) := hh
        have HV : Hid (hv s[k] = some v) := hv1
        have hv16 := hv_lt _ _ hv1
        have hk3i : (k : Int) < 4 := by omega
        have hn5 := hn4 hk3
        have HNX : Hid (NumS s.data.toList (k + 1) (n * 16 + v)) := nm_next HN.out hk3 HG.out hv1
        have hnk : k + 1 < 4 → n * 16 + v < 4096 := by
          intro h
          have h3 := HNX.out.2.2.1
          have h4 : (16 : Nat) ^ (k + 1) ≤ 16 ^ 3 := Nat.pow_le_pow_right (by decide) (by omega)
          have h5 : (16 : Nat) ^ 3 = 4096 := by decide
          omega
        clear hh hv1
        go_wp2_with fail
        rw [HXX.out]
        refine (hexin_at s[k] true HH.out _).mono ?_
        rintro e w' ⟨rfl, rfl⟩
        go_wp2_with fail
        rw [HXX.out]
        refine (rlower_one s[k] _).mono ?_
        rintro e w' ⟨rfl, rfl⟩
        go_wp2_with fail
        refine (hexat_at s[k] v HV.out _).mono ?_
        rintro e w' ⟨rfl, rfl⟩
        go_wp2_with fail
        go_round
        case rel => exact ⟨n * 16 + v, k + 1, by go_num, by go_num, by omega, by omega, by omega, hnk, HNX.out⟩
        case measure => simp [intOf]; omega
      · have hstop : 4 ≤ k ∨ hv s[k] = none := by
          rcases Nat.lt_or_ge k 4 with h | h
          · right
            cases hh : hv s[k] with
            | none => rfl
            | some v => exact absurd ⟨h, by rw [hh]; rfl⟩ hgo
          · exact .inl h
        have HST : Hid (4 ≤ k ∨ hv s[k] = none) := hstop
        have HHH : Hid (k < 4 → (hv s[k]).isSome = false) := by
          intro h
          rcases hstop with h' | h'
          · omega
          · rw [h']; rfl
        clear hgo
        by_cases hk0 : k = 0
        · subst hk0
          have HQ : Hid (BadR s.data.toList) := nm_none HN.out HG.out (by rcases HST.out with h | h; omega; exact h)
          clear hstop
          go_wp2_with fail
          rw [HXX.out]
          refine (hexin_at s[0] false (HHH.out (by omega)) _).mono ?_
          rintro e w' ⟨rfl, rfl⟩
          go_wp2_with fail
          go_ret3
          exact ⟨0, 0, 3, rfl, .inr (.inl ⟨rfl, HQ.out⟩), rfl⟩
        · have hk0' : ((k : Int) == 0) = false := by rw [beq_eq_false_iff_ne]; omega
          by_cases h59 : s[k] = 59
          · have h59' : ((s[k].toNat : Int) == 59) = true := by rw [h59]; rfl
            have HEX : Hid (ExtS s.data.toList 0 n (k + 1)) := nm_semi HN.out (by omega) (by rw [HG.out, h59])
            have hdone : (k : Int) < 4 ∨ ¬ (k : Int) < 4 := by omega
            clear hstop h59 hsl HR
            rcases hdone with h4 | h4
            all_goals
              go_wp2_with (go_at_call 108; rw [HXX.out]; refine (hexin_at s[k] false (HHH.out (by omega)) _).mono ?_; rintro e w' ⟨rfl, rfl⟩)
              go_loop [6, 7] (fun kv mv => ∃ q m : Nat, kv = .int .i64 q ∧ mv = .int .i64 m ∧ q ≤ s.size ∧ m ≤ 50 ∧ ExtS s.data.toList m n q) (fun _ mv => 50 - (intOf mv).toNat)
              case atStart => exact ⟨k + 1, 0, by go_num, rfl, by omega, by omega, HEX.out⟩
              case round =>
                obtain ⟨q, m, rfl, rfl, hq, hm50, hext⟩ := hrel
                have HE : Hid (ExtS s.data.toList m n q) := hext
                clear hext
                obtain ⟨r, hr⟩ : ∃ r : ByteArray, r = s.extract q s.size := ⟨_, rfl⟩
                have HR : Hid (r.data.toList = s.data.toList.drop q) := by
                  show _ = _
                  rw [hr, Lib.extract_data, List.take_of_length_le (by rw [List.length_drop, HSL.out]; omega)]
                have hsl : ∀ w, (Instr.slice 9 (.string s) (some (.int .i64 (q : Int))) none none).run Tryz.prog w = .ok (.string r) w := fun w => by
                  rw [run_slice_string_l w 9 s Tryz.underlying9 .i64 (q : Int) (by omega) (by omega), hr]; rfl
                clear hr
                by_cases hm : m < 50
                · have hmi : (m : Int) < 50 := by omega
                  by_cases hql : q < s.size
                  · have hqi : (q : Int) < (s.size : Int) := by omega
                    have HYY : Hid (s.extract q (q + 1) = ⟨#[s[q]]⟩) := extract_one s q hql
                    have HGQ : Hid (s.data.toList[q]? = some s[q]) := bt_at s q hql
                    cases hp : plainB s[q]
                    · have HP : Hid (plainB s[q] = false) := hp
                      have HFIN : Hid (Fin2 s.data.toList q n) := fin_ext HE.out (.inr (.inr ⟨_, HGQ.out, hp⟩))
                      clear hp
                      rcases fin_cases HFIN.out with ⟨b1, hq⟩ | ⟨b1, b2, hq⟩ | ⟨b1, b2, hq⟩
                      · have HB1 : Hid (Lib.hasPrefix (s.data.toList.drop q) [13, 10] = true) := b1
                        have HQ : Hid (HeadR s.data.toList n (q + 2)) := hq
                        clear b1 hq
                        go_wp2_with fail
                        rw [HYY.out]
                        refine (rplain_one s[q] false HP.out _).mono ?_
                        rintro e w' ⟨rfl, rfl⟩
                        go_wp2_with fail
                        refine (Tryz.strings_HasPrefix r ⟨#[13, 10]⟩ _).mono ?_
                        rintro e w' ⟨rfl, rfl⟩
                        rw [HR.out, HB1.out]
                        go_wp2_with fail
                        go_ret3
                        exact ⟨n, q + 2, 0, ret_iii rfl (by go_num) rfl, .inr (.inr ⟨rfl, HQ.out⟩), rfl⟩
                      · have HB1 : Hid (Lib.hasPrefix (s.data.toList.drop q) [13, 10] = false) := b1
                        have HB2 : Hid (Lib.hasPrefix [13, 10] (s.data.toList.drop q) = true) := b2
                        have HQ : Hid (ShortR s.data.toList) := hq
                        clear b1 b2 hq
                        go_wp2_with fail
                        rw [HYY.out]
                        refine (rplain_one s[q] false HP.out _).mono ?_
                        rintro e w' ⟨rfl, rfl⟩
                        go_wp2_with fail
                        refine (Tryz.strings_HasPrefix r ⟨#[13, 10]⟩ _).mono ?_
                        rintro e w' ⟨rfl, rfl⟩
                        rw [HR.out, HB1.out]
                        go_wp2_with fail
                        refine (Tryz.strings_HasPrefix ⟨#[13, 10]⟩ r _).mono ?_
                        rintro e w' ⟨rfl, rfl⟩
                        rw [HR.out, HB2.out]
                        go_wp2_with fail
                        go_ret3
                        exact ⟨0, 0, 8, rfl, .inl ⟨rfl, HQ.out⟩, rfl⟩
                      · have HB1 : Hid (Lib.hasPrefix (s.data.toList.drop q) [13, 10] = false) := b1
                        have HB2 : Hid (Lib.hasPrefix [13, 10] (s.data.toList.drop q) = false) := b2
                        have HQ : Hid (BadR s.data.toList) := hq
                        clear b1 b2 hq
                        go_wp2_with fail
                        rw [HYY.out]
                        refine (rplain_one s[q] false HP.out _).mono ?_
                        rintro e w' ⟨rfl, rfl⟩
                        go_wp2_with fail
                        refine (Tryz.strings_HasPrefix r ⟨#[13, 10]⟩ _).mono ?_
                        rintro e w' ⟨rfl, rfl⟩
                        rw [HR.out, HB1.out]
                        go_wp2_with fail
                        refine (Tryz.strings_HasPrefix ⟨#[13, 10]⟩ r _).mono ?_
                        rintro e w' ⟨rfl, rfl⟩
                        rw [HR.out, HB2.out]
                        go_wp2_with fail
                        go_ret3
                        exact ⟨0, 0, 3, rfl, .inr (.inl ⟨rfl, HQ.out⟩), rfl⟩
                    · have HP : Hid (plainB s[q] = true) := hp
                      have HNX : Hid (ExtS s.data.toList (m + 1) n (q + 1)) := ext_next HE.out hm HGQ.out hp
                      clear hp
                      go_wp2_with fail
                      rw [HYY.out]
                      refine (rplain_one s[q] true HP.out _).mono ?_
                      rintro e w' ⟨rfl, rfl⟩
                      go_wp2_with fail
                      go_round
                      case rel => exact ⟨q + 1, m + 1, by go_num, by go_num, by omega, by omega, HNX.out⟩
                      case measure => simp [intOf]; omega
                  · have hqi : ¬ (q : Int) < (s.size : Int) := by omega
                    have HFIN : Hid (Fin2 s.data.toList q n) := fin_ext HE.out (.inr (.inl (by rw [HSL.out]; omega)))
                    rcases fin_cases HFIN.out with ⟨b1, hq⟩ | ⟨b1, b2, hq⟩ | ⟨b1, b2, hq⟩
                    · have HB1 : Hid (Lib.hasPrefix (s.data.toList.drop q) [13, 10] = true) := b1
                      have HQ : Hid (HeadR s.data.toList n (q + 2)) := hq
                      clear b1 hq
                      go_wp2_with fail
                      refine (Tryz.strings_HasPrefix r ⟨#[13, 10]⟩ _).mono ?_
                      rintro e w' ⟨rfl, rfl⟩
                      rw [HR.out, HB1.out]
                      go_wp2_with fail
                      go_ret3
                      exact ⟨n, q + 2, 0, ret_iii rfl (by go_num) rfl, .inr (.inr ⟨rfl, HQ.out⟩), rfl⟩
                    · have HB1 : Hid (Lib.hasPrefix (s.data.toList.drop q) [13, 10] = false) := b1
                      have HB2 : Hid (Lib.hasPrefix [13, 10] (s.data.toList.drop q) = true) := b2
                      have HQ : Hid (ShortR s.data.toList) := hq
                      clear b1 b2 hq
                      go_wp2_with fail
                      refine (Tryz.strings_HasPrefix r ⟨#[13, 10]⟩ _).mono ?_
                      rintro e w' ⟨rfl, rfl⟩
                      rw [HR.out, HB1.out]
                      go_wp2_with fail
                      refine (Tryz.strings_HasPrefix ⟨#[13, 10]⟩ r _).mono ?_
                      rintro e w' ⟨rfl, rfl⟩
                      rw [HR.out, HB2.out]
                      go_wp2_with fail
                      go_ret3
                      exact ⟨0, 0, 8, rfl, .inl ⟨rfl, HQ.out⟩, rfl⟩
                    · have HB1 : Hid (Lib.hasPrefix (s.data.toList.drop q) [13, 10] = false) := b1
                      have HB2 : Hid (Lib.hasPrefix [13, 10] (s.data.toList.drop q) = false) := b2
                      have HQ : Hid (BadR s.data.toList) := hq
                      clear b1 b2 hq
                      go_wp2_with fail
                      refine (Tryz.strings_HasPrefix r ⟨#[13, 10]⟩ _).mono ?_
                      rintro e w' ⟨rfl, rfl⟩
                      rw [HR.out, HB1.out]
                      go_wp2_with fail
                      refine (Tryz.strings_HasPrefix ⟨#[13, 10]⟩ r _).mono ?_
                      rintro e w' ⟨rfl, rfl⟩
                      rw [HR.out, HB2.out]
                      go_wp2_with fail
                      go_ret3
                      exact ⟨0, 0, 3, rfl, .inr (.inl ⟨rfl, HQ.out⟩), rfl⟩
                · have hmi : ¬ (m : Int) < 50 := by omega
                  have HFIN : Hid (Fin2 s.data.toList q n) := fin_ext HE.out (.inl (by omega))
                  rcases fin_cases HFIN.out with ⟨b1, hq⟩ | ⟨b1, b2, hq⟩ | ⟨b1, b2, hq⟩
                  · have HB1 : Hid (Lib.hasPrefix (s.data.toList.drop q) [13, 10] = true) := b1
                    have HQ : Hid (HeadR s.data.toList n (q + 2)) := hq
                    clear b1 hq
                    go_wp2_with fail
                    refine (Tryz.strings_HasPrefix r ⟨#[13, 10]⟩ _).mono ?_
                    rintro e w' ⟨rfl, rfl⟩
                    rw [HR.out, HB1.out]
                    go_wp2_with fail
                    go_ret3
                    exact ⟨n, q + 2, 0, ret_iii rfl (by go_num) rfl, .inr (.inr ⟨rfl, HQ.out⟩), rfl⟩
                  · have HB1 : Hid (Lib.hasPrefix (s.data.toList.drop q) [13, 10] = false) := b1
                    have HB2 : Hid (Lib.hasPrefix [13, 10] (s.data.toList.drop q) = true) := b2
                    have HQ : Hid (ShortR s.data.toList) := hq
                    clear b1 b2 hq
                    go_wp2_with fail
                    refine (Tryz.strings_HasPrefix r ⟨#[13, 10]⟩ _).mono ?_
                    rintro e w' ⟨rfl, rfl⟩
                    rw [HR.out, HB1.out]
                    go_wp2_with fail
                    refine (Tryz.strings_HasPrefix ⟨#[13, 10]⟩ r _).mono ?_
                    rintro e w' ⟨rfl, rfl⟩
                    rw [HR.out, HB2.out]
                    go_wp2_with fail
                    go_ret3
                    exact ⟨0, 0, 8, rfl, .inl ⟨rfl, HQ.out⟩, rfl⟩
                  · have HB1 : Hid (Lib.hasPrefix (s.data.toList.drop q) [13, 10] = false) := b1
                    have HB2 : Hid (Lib.hasPrefix [13, 10] (s.data.toList.drop q) = false) := b2
                    have HQ : Hid (BadR s.data.toList) := hq
                    clear b1 b2 hq
                    go_wp2_with fail
                    refine (Tryz.strings_HasPrefix r ⟨#[13, 10]⟩ _).mono ?_
                    rintro e w' ⟨rfl, rfl⟩
                    rw [HR.out, HB1.out]
                    go_wp2_with fail
                    refine (Tryz.strings_HasPrefix ⟨#[13, 10]⟩ r _).mono ?_
                    rintro e w' ⟨rfl, rfl⟩
                    rw [HR.out, HB2.out]
                    go_wp2_with fail
                    go_ret3
                    exact ⟨0, 0, 3, rfl, .inr (.inl ⟨rfl, HQ.out⟩), rfl⟩
          · have h59' : ((s[k].toNat : Int) == 59) = false := by
              rw [beq_eq_false_iff_ne]; intro h
              exact h59 (UInt8.toNat.inj (by rw [show (59 : UInt8).toNat = 59 from rfl]; omega))
            have HFIN : Hid (Fin2 s.data.toList k n) := fin_num HN.out (by omega) HG.out HST.out h59
            have hdone : (k : Int) < 4 ∨ ¬ (k : Int) < 4 := by omega
            clear hstop h59
            rcases hdone with h4 | h4
            all_goals
              rcases fin_cases HFIN.out with ⟨b1, hq⟩ | ⟨b1, b2, hq⟩ | ⟨b1, b2, hq⟩
              · have HB1 : Hid (Lib.hasPrefix (s.data.toList.drop k) [13, 10] = true) := b1
                have HQ : Hid (HeadR s.data.toList n (k + 2)) := hq
                clear b1 hq
                go_wp2_with (go_at_call 108; rw [HXX.out]; refine (hexin_at s[k] false (HHH.out (by omega)) _).mono ?_; rintro e w' ⟨rfl, rfl⟩)
                refine (Tryz.strings_HasPrefix r ⟨#[13, 10]⟩ _).mono ?_
                rintro e w' ⟨rfl, rfl⟩
                rw [HR.out, HB1.out]
                go_wp2_with fail
                go_ret3
                exact ⟨n, k + 2, 0, ret_iii rfl (by go_num) rfl, .inr (.inr ⟨rfl, HQ.out⟩), rfl⟩
              · have HB1 : Hid (Lib.hasPrefix (s.data.toList.drop k) [13, 10] = false) := b1
                have HB2 : Hid (Lib.hasPrefix [13, 10] (s.data.toList.drop k) = true) := b2
                have HQ : Hid (ShortR s.data.toList) := hq
                clear b1 b2 hq
                go_wp2_with (go_at_call 108; rw [HXX.out]; refine (hexin_at s[k] false (HHH.out (by omega)) _).mono ?_; rintro e w' ⟨rfl, rfl⟩)
                refine (Tryz.strings_HasPrefix r ⟨#[13, 10]⟩ _).mono ?_
                rintro e w' ⟨rfl, rfl⟩
                rw [HR.out, HB1.out]
                go_wp2_with fail
                refine (Tryz.strings_HasPrefix ⟨#[13, 10]⟩ r _).mono ?_
                rintro e w' ⟨rfl, rfl⟩
                rw [HR.out, HB2.out]
                go_wp2_with fail
                go_ret3
                exact ⟨0, 0, 8, rfl, .inl ⟨rfl, HQ.out⟩, rfl⟩
              · have HB1 : Hid (Lib.hasPrefix (s.data.toList.drop k) [13, 10] = false) := b1
                have HB2 : Hid (Lib.hasPrefix [13, 10] (s.data.toList.drop k) = false) := b2
                have HQ : Hid (BadR s.data.toList) := hq
                clear b1 b2 hq
                go_wp2_with (go_at_call 108; rw [HXX.out]; refine (hexin_at s[k] false (HHH.out (by omega)) _).mono ?_; rintro e w' ⟨rfl, rfl⟩)
                refine (Tryz.strings_HasPrefix r ⟨#[13, 10]⟩ _).mono ?_
                rintro e w' ⟨rfl, rfl⟩
                rw [HR.out, HB1.out]
                go_wp2_with fail
                refine (Tryz.strings_HasPrefix ⟨#[13, 10]⟩ r _).mono ?_
                rintro e w' ⟨rfl, rfl⟩
                rw [HR.out, HB2.out]
                go_wp2_with fail
                go_ret3
                exact ⟨0, 0, 3, rfl, .inr (.inl ⟨rfl, HQ.out⟩), rfl⟩
    · obtain rfl : k = s.size := by omega
      have HQ : Hid (ShortR s.data.toList) := nm_short HN.out (by rw [HSL.out])
      have hki : ¬ (s.size : Int) < (s.size : Int) := by omega
      go_wp2_with fail
      go_ret3
      exact ⟨0, 0, 8, rfl, .inl ⟨rfl, HQ.out⟩, rfl⟩
end Go.Proofs.YtipfjpihciiikaaGreatDoor
