/-
  The walk through TokenCommas: it answers true and turns nothing that was there; the strings fit in Go's limits.
-/
import Derived.Test.YthedmfbfolhaoabDoorSpecC
import Derived.Test.YthedmfbfolhaoabDoorWQuote
import Derived.Test.YthedmfbfolhaoabDoorWEqS
import Derived.Test.YthedmfbfolhaoabDoorWSplit
namespace Go.Proofs.YthedmfbfolhaoabDoor
open Go.RowKit

theorem kept_two (a b : List UInt8) : kept [(34 :: (a ++ [34])) ++ [32], 32 :: (34 :: (b ++ [34]))] = [34 :: (a ++ [34]), 34 :: (b ++ [34])] := by
  unfold kept
  rw [List.map_cons, List.map_cons, List.map_nil, trimL_last _ 32 rfl, trimL_first _ 32 rfl, trimL_quoted, trimL_quoted]
  rfl
theorem pieces_two (a b : List UInt8) : cutS 44 ((34 :: (esc a ++ [34])) ++ [32, 44, 32] ++ (34 :: (esc b ++ [34]))) = ⟨[(34 :: (esc a ++ [34])) ++ [32]], 32 :: (34 :: (esc b ++ [34])), false, false⟩ := by
  unfold cutS
  rw [List.foldl_append, List.foldl_append, run_fold 44 _ [] [] false false false false (closed_quoted 44 (by decide) a)]
  have e1 : [32, 44, 32].foldl (cstep 44) ⟨[], [] ++ 34 :: (esc a ++ [34]), false, false⟩ = ⟨[(34 :: (esc a ++ [34])) ++ [32]], [32], false, false⟩ := by simp [cstep]
  rw [e1, run_fold 44 _ _ _ false false false false (closed_quoted 44 (by decide) b)]
  rfl
theorem split_two (a b : List UInt8) (h : (34 :: (esc a ++ [34])).length + (34 :: (esc b ++ [34])).length ≤ 990) :
    splitS ((34 :: (esc a ++ [34])) ++ [32, 44, 32] ++ (34 :: (esc b ++ [34]))) = ([34 :: (esc a ++ [34]), 34 :: (esc b ++ [34])], 0) := by
  have hp : pieces 44 ((34 :: (esc a ++ [34])) ++ [32, 44, 32] ++ (34 :: (esc b ++ [34]))) = [(34 :: (esc a ++ [34])) ++ [32], 32 :: (34 :: (esc b ++ [34]))] := by
    unfold pieces; rw [pieces_two]; rfl
  have he : ends 44 ((34 :: (esc a ++ [34])) ++ [32, 44, 32] ++ (34 :: (esc b ++ [34]))) = true := by
    unfold ends; rw [pieces_two]; rfl
  unfold splitS
  rw [if_neg (by simp at h ⊢; omega), if_neg (by rw [he]; simp), hp, kept_two, if_neg (by simp)]

set_option maxHeartbeats 2000000 in
set_option maxRecDepth 100000 in
theorem walkTokenCommas (a0 a1 : ByteArray) (_z0 : a0.size ≤ 140737488351232) (_z1 : a1.size ≤ 140737488351232) (w : World) :
    Calls Tryd.prog 6 #[.string a0, .string a1] w fun e w' => e = .returned (.bool true) ∧ Below w.heap.size w w' := by
  obtain ⟨q, n, hq⟩ : ∃ (q : ByteArray) (n : Int), qt a0.data.toList = (q.data.toList, n) := ⟨⟨(qt a0.data.toList).1.toArray⟩, (qt a0.data.toList).2, rfl⟩
  obtain ⟨p, m, hp⟩ : ∃ (p : ByteArray) (m : Int), qt a1.data.toList = (p.data.toList, m) := ⟨⟨(qt a1.data.toList).1.toArray⟩, (qt a1.data.toList).2, rfl⟩
  have HQ : Hid (qt a0.data.toList = (q.data.toList, n)) := hq
  have HP : Hid (qt a1.data.toList = (p.data.toList, m)) := hp
  have cq := qt_cases _ _ _ hq
  have cp := qt_cases _ _ _ hp
  clear hq hp
  rcases cq with ⟨hn, hq0⟩ | ⟨hn, hql, hqe⟩
  · have hne : (n != 0) = true := by simp [hn]
    have hne' : (n == 0) = false := by simp [hn]
    have hqq : q.toList.isEmpty = true := by rw [ByteArray.toList_eq, hq0]; rfl
    clear hn hq0
    rcases cp with ⟨hm, hp0⟩ | ⟨hm, hpl, hpe⟩
    · have hme : (m != 0) = true := by simp [hm]
      have hme' : (m == 0) = false := by simp [hm]
      have hpp : p.toList.isEmpty = true := by rw [ByteArray.toList_eq, hp0]; rfl
      clear hm hp0
      go_enter Tryd.func6, Tryd.ntmps6
      go_wp2_with fail
      refine (quote_at _ q n HQ.out _).mono ?_
      rintro e w1 ⟨rfl, hb⟩
      go_wp2_with fail
      refine (quote_at _ p m HP.out _).mono ?_
      rintro e w2 ⟨rfl, hb2⟩
      go_wp2_with fail
      go_ret
      exact ⟨ret_bool (by simp), hb.trans (hb2.mono hb.size)⟩
    · subst hm
      clear hpl hpe
      go_enter Tryd.func6, Tryd.ntmps6
      go_wp2_with fail
      refine (quote_at _ q n HQ.out _).mono ?_
      rintro e w1 ⟨rfl, hb⟩
      go_wp2_with fail
      refine (quote_at _ p 0 HP.out _).mono ?_
      rintro e w2 ⟨rfl, hb2⟩
      go_wp2_with fail
      go_ret
      exact ⟨ret_bool (by simp), hb.trans (hb2.mono hb.size)⟩
  · subst hn
    rcases cp with ⟨hm, hp0⟩ | ⟨hm, hpl, hpe⟩
    · have hme : (m != 0) = true := by simp [hm]
      have hme' : (m == 0) = false := by simp [hm]
      have hpp : p.toList.isEmpty = true := by rw [ByteArray.toList_eq, hp0]; rfl
      clear hm hp0 hql hqe
      go_enter Tryd.func6, Tryd.ntmps6
      go_wp2_with fail
      refine (quote_at _ q 0 HQ.out _).mono ?_
      rintro e w1 ⟨rfl, hb⟩
      go_wp2_with fail
      refine (quote_at _ p m HP.out _).mono ?_
      rintro e w2 ⟨rfl, hb2⟩
      go_wp2_with fail
      go_ret
      exact ⟨ret_bool (by simp), hb.trans (hb2.mono hb.size)⟩
    · subst hm
      have hqs : q.size ≤ 3000 := by rw [← size_list]; omega
      have hps : p.size ≤ 3000 := by rw [← size_list]; omega
      by_cases hbig : 990 < (q.size : Int) + (p.size : Int)
      · clear hqe hpe
        go_enter Tryd.func6, Tryd.ntmps6
        go_wp2_with fail
        refine (quote_at _ q 0 HQ.out _).mono ?_
        rintro e w1 ⟨rfl, hb⟩
        go_wp2_with fail
        refine (quote_at _ p 0 HP.out _).mono ?_
        rintro e w2 ⟨rfl, hb2⟩
        go_wp2_with fail
        go_ret
        exact ⟨ret_bool (by simp), hb.trans (hb2.mono hb.size)⟩
      · have HSP : Hid (splitS (q ++ ⟨#[32, 44, 32]⟩ ++ p).data.toList = ([q.data.toList, p.data.toList], 0)) := by
          show _ = _
          have e : (q ++ ⟨#[32, 44, 32]⟩ ++ p).data.toList = q.data.toList ++ [32, 44, 32] ++ p.data.toList := by
            rw [ByteArray.data_append, ByteArray.data_append, Array.toList_append, Array.toList_append]
          rw [e, hqe, hpe]
          apply split_two
          rw [← hqe, ← hpe, size_list, size_list]
          omega
        clear hqe hpe hql hpl
        go_enter Tryd.func6, Tryd.ntmps6
        go_wp2_with fail
        refine (quote_at _ q 0 HQ.out _).mono ?_
        rintro e w1 ⟨rfl, hb⟩
        go_wp2_with fail
        refine (quote_at _ p 0 HP.out _).mono ?_
        rintro e w2 ⟨rfl, hb2⟩
        have hb3 := hb.trans (hb2.mono hb.size)
        clear hb hb2
        go_wp2_with fail
        refine (split_any _ _).mono ?_
        rintro e w3 ⟨v, rfl, hown, hb4⟩
        rw [HSP.out] at hown ⊢
        have hb5 := hb3.trans (hb4.mono hb3.size)
        clear hb3 hb4
        go_wp2_with fail
        have hlit : (w3.alloc (.cells #[.string q, .string p] 9)).ownsRow w3.heap.size 9 1 (.slice (some ⟨w3.heap.size, 0, none⟩) 2 2) 2 (strs [q.data.toList, p.data.toList]) := by
          exact World.ownsRow_lit w3 #[.string q, .string p] 2 (Nat.le_refl _) (by unfold maxLen; omega) rfl
        refine (eqS_same _ _ _ _ _ _ _ (by simp) (hown.alloc _) hlit).mono ?_
        rintro e w4 ⟨rfl, rfl⟩
        go_wp2_with fail
        go_ret
        exact ⟨rfl, hb5.alloc hb5.size _⟩
end Go.Proofs.YthedmfbfolhaoabDoor
