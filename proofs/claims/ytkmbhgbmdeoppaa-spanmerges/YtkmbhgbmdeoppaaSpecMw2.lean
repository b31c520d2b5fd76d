/-
  One slice of a body laid into those that are there, in memory: two rows of the call's own, and a block of two numbers; no program is named here.
-/
import Derived.Test.YtkmbhgbmdeoppaaSpecMg
import Derived.Test.YtkmbhgbmdeoppaaSpecWl
import Derived.Test.YtkmbhgbmdeoppaaSpecRw
import Derived.Test.YtkmbhgbmdeoppaaSpecAl
namespace Go.Proofs.Ytkmbhgbmdeoppaa
open Go.RowKit

structure IW (T : TypeId) (wr : World) (S : Nat) (W : World) (av bv : Value) (x : M3) : Prop where
  c0 : W.cell? ⟨S, 0, none⟩ = some (.int .i64 x.s.1)
  c1 : W.cell? ⟨S, 1, none⟩ = some (.int .i64 x.s.2)
  f0 : W.frozen? ⟨S, 0, none⟩ = false
  f1 : W.frozen? ⟨S, 1, none⟩ = false
  sz : S < W.heap.size
  a : W.ownsRow (S + 1) T 2 av x.ah.length (wns x.ah)
  b : W.ownsRow (S + 1) T 2 bv x.be.length (wns x.be)
  sep : Sep av bv
  bel : Below S wr W
theorem IW.start (T t : TypeId) (wr : World) (p q : Int) : IW T wr wr.heap.size (wr.alloc (.cells #[.int .i64 p, .int .i64 q] t)) (.slice none 0 0) (.slice none 0 0) ⟨(p, q), [], []⟩ :=
  ⟨by simp, by simp, new_free _ _ _ _, new_free _ _ _ _, by simp, World.ownsRow_nil _ _ _ _, World.ownsRow_nil _ _ _ _, Sep.nil _, below_alloc _ _⟩
theorem IW.later {T : TypeId} {wr : World} {S : Nat} {W W' : World} {av bv : Value} {x : M3} (h : IW T wr S W av bv x) (hb : Below W.heap.size W W') : IW T wr S W' av bv x :=
  ⟨cell_keep hb h.c0, cell_keep hb h.c1, (hb.frozen (p := ⟨S, 0, none⟩) h.sz).trans h.f0, (hb.frozen (p := ⟨S, 1, none⟩) h.sz).trans h.f1, Nat.lt_of_lt_of_le h.sz hb.size, own_below3 h.a hb, own_below3 h.b hb, h.sep, h.bel.trans (hb.mono (Nat.le_of_lt h.sz))⟩
theorem IW.alloc {T : TypeId} {wr : World} {S : Nat} {W : World} {av bv : Value} {x : M3} (h : IW T wr S W av bv x) (o : Obj) : IW T wr S (W.alloc o) av bv x := h.later (below_alloc W o)
theorem IW.set {T : TypeId} {wr : World} {S : Nat} {W : World} {av bv : Value} {x : M3} (h : IW T wr S W av bv x) (p q : Int) :
    IW T wr S ((W.setCell ⟨S, 0, none⟩ (.int .i64 p)).setCell ⟨S, 1, none⟩ (.int .i64 q)) av bv ⟨(p, q), x.ah, x.be⟩ := by
  have e : (W.setCell ⟨S, 0, none⟩ (.int .i64 p)).cell? ⟨S, 1, none⟩ = some (.int .i64 x.s.2) := (World.cell?_setCell_other _ _ _ _ (by simp)).trans h.c1
  refine ⟨(World.cell?_setCell_other _ _ _ _ (by simp)).trans (World.cell?_setCell_same' _ _ _ (by rw [h.c0]; rfl)), World.cell?_setCell_same' _ _ _ (by rw [e]; rfl), ?_, ?_, ?_,
    ownsRow_setCell_below (ownsRow_setCell_below h.a (a := ⟨S, 0, none⟩) (show S < S + 1 by omega) _) (a := ⟨S, 1, none⟩) (show S < S + 1 by omega) _,
    ownsRow_setCell_below (ownsRow_setCell_below h.b (a := ⟨S, 0, none⟩) (show S < S + 1 by omega) _) (a := ⟨S, 1, none⟩) (show S < S + 1 by omega) _, h.sep,
    (h.bel.setCell (p := ⟨S, 0, none⟩) (Nat.le_refl _) _).setCell (p := ⟨S, 1, none⟩) (Nat.le_refl _) _⟩
  · rw [World.frozen?_setCell, World.frozen?_setCell]; exact h.f0
  · rw [World.frozen?_setCell, World.frozen?_setCell]; exact h.f1
  · simpa using h.sz
theorem IW.growA {T : TypeId} {wr : World} {S : Nat} {W W' : World} {av bv : Value} {x : M3} (h : IW T wr S W av bv x) (g n c : Nat) (t : Wn)
    (hown : W'.ownsRow (S + 1) T 2 (.slice (some ⟨g, 0, none⟩) n c) (x.ah.length + 1) (wns x.ah ++ [.int .i64 t.1, .int .i64 t.2])) (hg : W.grownBy W' av.ownBlock) (hat : av.ownBlock = some g ∨ g = W.heap.size) :
    IW T wr S W' (.slice (some ⟨g, 0, none⟩) n c) bv ⟨x.s, x.ah ++ [t], x.be⟩ := by
  have hne : some S ≠ av.ownBlock := fun e => by have := (h.a.lt S e.symm).1; omega
  refine ⟨(hg.cell_far ⟨S, 0, none⟩ h.sz hne).trans h.c0, (hg.cell_far ⟨S, 1, none⟩ h.sz hne).trans h.c1, (hg.frozen_far ⟨S, 0, none⟩ h.sz hne).trans h.f0, (hg.frozen_far ⟨S, 1, none⟩ h.sz hne).trans h.f1, Nat.lt_of_lt_of_le h.sz hg.size, ?_, own_kept h.b hg h.sep, Sep.new h.sep hat (fun k hk => (h.b.lt k hk).2), ?_⟩
  · rw [← wns_snoc, List.length_append]; exact hown
  · exact h.bel.grown hg (Nat.le_of_lt h.sz) (fun b hb => by have := (h.a.lt b hb).1; omega)
theorem IW.growB {T : TypeId} {wr : World} {S : Nat} {W W' : World} {av bv : Value} {x : M3} (h : IW T wr S W av bv x) (g n c : Nat) (t : Wn)
    (hown : W'.ownsRow (S + 1) T 2 (.slice (some ⟨g, 0, none⟩) n c) (x.be.length + 1) (wns x.be ++ [.int .i64 t.1, .int .i64 t.2])) (hg : W.grownBy W' bv.ownBlock) (hat : bv.ownBlock = some g ∨ g = W.heap.size) :
    IW T wr S W' av (.slice (some ⟨g, 0, none⟩) n c) ⟨x.s, x.ah, x.be ++ [t]⟩ := by
  have hne : some S ≠ bv.ownBlock := fun e => by have := (h.b.lt S e.symm).1; omega
  refine ⟨(hg.cell_far ⟨S, 0, none⟩ h.sz hne).trans h.c0, (hg.cell_far ⟨S, 1, none⟩ h.sz hne).trans h.c1, (hg.frozen_far ⟨S, 0, none⟩ h.sz hne).trans h.f0, (hg.frozen_far ⟨S, 1, none⟩ h.sz hne).trans h.f1, Nat.lt_of_lt_of_le h.sz hg.size, own_kept h.a hg h.sep.turn, ?_, (Sep.new h.sep.turn hat (fun k hk => (h.a.lt k hk).2)).turn, ?_⟩
  · rw [← wns_snoc, List.length_append]; exact hown
  · exact h.bel.grown hg (Nat.le_of_lt h.sz) (fun b hb => by have := (h.b.lt b hb).1; omega)
end Go.Proofs.Ytkmbhgbmdeoppaa
