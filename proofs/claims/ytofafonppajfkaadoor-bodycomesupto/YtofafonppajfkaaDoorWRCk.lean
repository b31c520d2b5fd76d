/-
  What chunkHead of the document's answers computes: a chunk's line; the text fits in the memory that Go's limits allow.
-/
import Derived.Test.YtofafonppajfkaaDoorSpecCl
import Derived.Test.YtofafonppajfkaaDoorWRLow
import Derived.Test.YtofafonppajfkaaDoorWRPlain
namespace Go.Proofs.YtofafonppajfkaaDoor
open Go.RowKit

theorem hexin_at (c : UInt8) (b : Bool) (hb : (hv c).isSome = b) (w : World) :
    Calls Tryd.prog 48 #[.string ⟨#[48, 49, 50, 51, 52, 53, 54, 55, 56, 57, 97, 98, 99, 100, 101, 102, 65, 66, 67, 68, 69, 70]⟩, .string ⟨#[c]⟩] w fun e w' => e = .returned (.bool b) ∧ w' = w := by
  refine (Tryd.strings_Contains_one _ _ _).mono ?_
  rintro e w' ⟨rfl, rfl⟩
  refine ⟨ret_bool ?_, rfl⟩
  rw [← Lib.contains_iff_indexByte, ← hb]
  exact hexset c
theorem hexat_at (c : UInt8) (v : Nat) (hb : hv c = some v) (w : World) :
    Calls Tryd.prog 43 #[.string ⟨#[48, 49, 50, 51, 52, 53, 54, 55, 56, 57, 97, 98, 99, 100, 101, 102]⟩, .int .u8 ((low c).toNat : Int)] w fun e w' => e = .returned (.int .i64 (v : Int)) ∧ w' = w := by
  refine (Tryd.strings_IndexByte _ _ _).mono ?_
  rintro e w' ⟨rfl, rfl⟩
  refine ⟨?_, rfl⟩
  rw [u8_back]
  have h := hexidx c (by rw [hb]; rfl)
  rw [hb] at h
  exact congrArg (fun x => Ending.returned (.int .i64 x)) h
theorem rlower_one (c : UInt8) (w : World) : Calls Tryd.prog 25 #[.string ⟨#[c]⟩] w fun e w' => e = .returned (.string ⟨#[low c]⟩) ∧ w' = w := by
  refine (rlower_any ⟨#[c]⟩ w (by show 1 ≤ _; omega)).mono ?_
  rintro e w' ⟨rfl, rfl⟩
  exact ⟨rfl, rfl⟩
theorem rplain_one (c : UInt8) (b : Bool) (hb : plainB c = b) (w : World) : Calls Tryd.prog 49 #[.string ⟨#[c]⟩] w fun e w' => e = .returned (.bool b) ∧ w' = w := by
  refine (rplain_any ⟨#[c]⟩ w (by show 1 ≤ _; unfold maxLen; omega)).mono ?_
  rintro e w' ⟨rfl, rfl⟩
  refine ⟨ret_bool ?_, rfl⟩
  rw [← hb]; simp [allPlain]
theorem ret_iii {a b c d e f : Int} (h : a = b) (h' : c = d) (h'' : e = f) : Ending.returned (.tuple #[.int .i64 a, .int .i64 c, .int .i64 e]) = .returned (.tuple #[.int .i64 b, .int .i64 d, .int .i64 f]) := by rw [h, h', h'']
theorem get_at (s : ByteArray) (k : Nat) (h : k < s.size) : s.data.toList[k]? = some s[k] := by
  rw [List.getElem?_eq_getElem (by rw [size_list]; exact h)]; rfl

set_option maxHeartbeats 8000000 in
set_option maxRecDepth 100000 in
theorem rhead_any (s : ByteArray) (w : World) (hs : s.size ≤ 140737488351232) :
    Calls Tryd.prog 33 #[.string s] w fun e w' => ∃ (n k : Nat) (c : Int), e = .returned (.tuple #[.int .i64 (n : Int), .int .i64 (k : Int), .int .i64 c]) ∧ HdQ s.data.toList n k c ∧ w' = w := by
  have HSL : Hid (s.data.toList.length = s.size) := size_list s
  go_enter Tryd.func33, Tryd.ntmps33
  go_wp2_with fail
  go_loop [5, 6] (fun nv kv => ∃ n k : Nat, nv = .int .i64 n ∧ kv = .int .i64 k ∧ k ≤ s.size ∧ k ≤ 4 ∧ n < 65536 ∧ (k < 4 → n < 4096) ∧ NumS s.data.toList k n) (fun _ kv => 4 - (intOf kv).toNat)
  case atStart => exact ⟨0, 0, rfl, rfl, Nat.zero_le _, by omega, by omega, fun _ => by omega, nm_zero _⟩
  case round =>
    obtain ⟨n, k, rfl, rfl, hk, hk4, hn, hn4, hnum⟩ := hrel
    have HN : Hid (NumS s.data.toList k n) := hnum
    clear hnum
    by_cases hlt : k < s.size
    · have hki : (k : Int) < (s.size : Int) := by omega
      have hne : ((k : Int) == (s.size : Int)) = false := by rw [beq_eq_false_iff_ne]; omega
      have HX := extract_one s k hlt
      have HXX : Hid (s.extract k (k + 1) = ⟨#[s[k]]⟩) := HX
      clear HX
      have HG : Hid (s.data.toList[k]? = some s[k]) := get_at s k hlt
      obtain ⟨r, hr⟩ : ∃ r : ByteArray, r = s.extract k s.size := ⟨_, rfl⟩
      have HR : Hid (r.data.toList = s.data.toList.drop k) := by
        show _ = _
        rw [hr, Lib.extract_data, List.take_of_length_le (by rw [List.length_drop, HSL.out]; omega)]
      have hsl : ∀ w, (Instr.slice 9 (.string s) (some (.int .i64 (k : Int))) none none).run Tryd.prog w = .ok (.string r) w := fun w => by
        rw [run_slice_string_l w 9 s Tryd.underlying9 .i64 (k : Int) (by omega) (by omega), hr]; rfl
      clear hr
      by_cases hgo : k < 4 ∧ (hv s[k]).isSome = true
      · obtain ⟨hk3, hh⟩ := hgo
        obtain ⟨v, hv1⟩ := Option.isSome_iff_exists.1 hh
        have HH : Hid ((hv s[k]).isSome = true) := hh
        have HV : Hid (hv s[k] = some v) := hv1
        have hv16 := hv_lt _ _ hv1
        have hk3i : (k : Int) < 4 := by omega
        have hn5 := hn4 hk3
        have HNX : Hid (NumS s.data.toList (k + 1) (n * 16 + v)) := nm_next HN.out hk3 HG.out hv1
        have hnk : k + 1 < 4 → n * 16 + v < 4096 := by
          intro h
          have h3 := HNX.out.2.2.1
          have h4 : (16 : Nat) ^ (k + 1) ≤ 16 ^ 3 := Nat.pow_le_pow_right (by decide) (by omega)
          have h5 : (16 : Nat) ^ 3 = 4096 := by decide
          omega
        clear hh hv1
        go_wp2_with fail
        rw [HXX.out]
        refine (hexin_at s[k] true HH.out _).mono ?_
        rintro e w' ⟨rfl, rfl⟩
        go_wp2_with fail
        rw [HXX.out]
        refine (rlower_one s[k] _).mono ?_
        rintro e w' ⟨rfl, rfl⟩
        go_wp2_with fail
        refine (hexat_at s[k] v HV.out _).mono ?_
        rintro e w' ⟨rfl, rfl⟩
        go_wp2_with fail
        go_round
        case rel => exact ⟨n * 16 + v, k + 1, by go_num, by go_num, by omega, by omega, by omega, hnk, HNX.out⟩
        case measure => simp [intOf]; omega
      · have hstop : 4 ≤ k ∨ hv s[k] = none := by
          rcases Nat.lt_or_ge k 4 with h | h
          · right
            cases hh : hv s[k] with
            | none => rfl
            | some v => exact absurd ⟨h, by rw [hh]; rfl⟩ hgo
          · exact .inl h
        have HST : Hid (4 ≤ k ∨ hv s[k] = none) := hstop
        have HHH : Hid (k < 4 → (hv s[k]).isSome = false) := by
          intro h
          rcases hstop with h' | h'
          · omega
          · rw [h']; rfl
        clear hgo
        by_cases hk0 : k = 0
        · subst hk0
          have HQ : Hid (BadR s.data.toList) := nm_none HN.out HG.out (by rcases HST.out with h | h; omega; exact h)
          clear hstop
          go_wp2_with fail
          rw [HXX.out]
          refine (hexin_at s[0] false (HHH.out (by omega)) _).mono ?_
          rintro e w' ⟨rfl, rfl⟩
          go_wp2_with fail
          go_ret3
          exact ⟨0, 0, 3, rfl, .inr (.inl ⟨rfl, HQ.out⟩), rfl⟩
        · have hk0' : ((k : Int) == 0) = false := by rw [beq_eq_false_iff_ne]; omega
          by_cases h59 : s[k] = 59
          · have h59' : ((s[k].toNat : Int) == 59) = true := by rw [h59]; rfl
            have HEX : Hid (ExtS s.data.toList 0 n (k + 1)) := nm_semi HN.out (by omega) (by rw [HG.out, h59])
            have hdone : (k : Int) < 4 ∨ ¬ (k : Int) < 4 := by omega
            clear hstop h59 hsl HR
            rcases hdone with h4 | h4
            all_goals
              go_wp2_with (go_at_call 48; rw [HXX.out]; refine (hexin_at s[k] false (HHH.out (by omega)) _).mono ?_; rintro e w' ⟨rfl, rfl⟩)
              go_loop [6, 7] (fun kv mv => ∃ q m : Nat, kv = .int .i64 q ∧ mv = .int .i64 m ∧ q ≤ s.size ∧ m ≤ 50 ∧ ExtS s.data.toList m n q) (fun _ mv => 50 - (intOf mv).toNat)
              case atStart => exact ⟨k + 1, 0, by go_num, rfl, by omega, by omega, HEX.out⟩
              case round =>
                obtain ⟨q, m, rfl, rfl, hq, hm50, hext⟩ := hrel
                have HE : Hid (ExtS s.data.toList m n q) := hext
                clear hext
                obtain ⟨r, hr⟩ : ∃ r : ByteArray, r = s.extract q s.size := ⟨_, rfl⟩
                have HR : Hid (r.data.toList = s.data.toList.drop q) := by
                  show _ = _
                  rw [hr, Lib.extract_data, List.take_of_length_le (by rw [List.length_drop, HSL.out]; omega)]
                have hsl : ∀ w, (Instr.slice 9 (.string s) (some (.int .i64 (q : Int))) none none).run Tryd.prog w = .ok (.string r) w := fun w => by
                  rw [run_slice_string_l w 9 s Tryd.underlying9 .i64 (q : Int) (by omega) (by omega), hr]; rfl
                clear hr
                by_cases hm : m < 50
                · have hmi : (m : Int) < 50 := by omega
                  by_cases hql : q < s.size
                  · have hqi : (q : Int) < (s.size : Int) := by omega
                    have HYY : Hid (s.extract q (q + 1) = ⟨#[s[q]]⟩) := extract_one s q hql
                    have HGQ : Hid (s.data.toList[q]? = some s[q]) := get_at s q hql
                    cases hp : plainB s[q]
                    · have HP : Hid (plainB s[q] = false) := hp
                      have HFIN : Hid (Fin2 s.data.toList q n) := fin_ext HE.out (.inr (.inr ⟨_, HGQ.out, hp⟩))
                      clear hp
                      rcases fin_cases HFIN.out with ⟨b1, hq⟩ | ⟨b1, b2, hq⟩ | ⟨b1, b2, hq⟩
                      · have HB1 : Hid (Lib.hasPrefix (s.data.toList.drop q) [13, 10] = true) := b1
                        have HQ : Hid (HeadR s.data.toList n (q + 2)) := hq
                        clear b1 hq
                        go_wp2_with fail
                        rw [HYY.out]
                        refine (rplain_one s[q] false HP.out _).mono ?_
                        rintro e w' ⟨rfl, rfl⟩
                        go_wp2_with fail
                        refine (Tryd.strings_HasPrefix r ⟨#[13, 10]⟩ _).mono ?_
                        rintro e w' ⟨rfl, rfl⟩
                        rw [HR.out, HB1.out]
                        go_wp2_with fail
                        go_ret3
                        exact ⟨n, q + 2, 0, ret_iii rfl (by go_num) rfl, .inr (.inr ⟨rfl, HQ.out⟩), rfl⟩
                      · have HB1 : Hid (Lib.hasPrefix (s.data.toList.drop q) [13, 10] = false) := b1
                        have HB2 : Hid (Lib.hasPrefix [13, 10] (s.data.toList.drop q) = true) := b2
                        have HQ : Hid (ShortR s.data.toList) := hq
                        clear b1 b2 hq
                        go_wp2_with fail
                        rw [HYY.out]
                        refine (rplain_one s[q] false HP.out _).mono ?_
                        rintro e w' ⟨rfl, rfl⟩
                        go_wp2_with fail
                        refine (Tryd.strings_HasPrefix r ⟨#[13, 10]⟩ _).mono ?_
                        rintro e w' ⟨rfl, rfl⟩
                        rw [HR.out, HB1.out]
                        go_wp2_with fail
                        refine (Tryd.strings_HasPrefix ⟨#[13, 10]⟩ r _).mono ?_
                        rintro e w' ⟨rfl, rfl⟩
                        rw [HR.out, HB2.out]
                        go_wp2_with fail
                        go_ret3
                        exact ⟨0, 0, 8, rfl, .inl ⟨rfl, HQ.out⟩, rfl⟩
                      · have HB1 : Hid (Lib.hasPrefix (s.data.toList.drop q) [13, 10] = false) := b1
                        have HB2 : Hid (Lib.hasPrefix [13, 10] (s.data.toList.drop q) = false) := b2
                        have HQ : Hid (BadR s.data.toList) := hq
                        clear b1 b2 hq
                        go_wp2_with fail
                        rw [HYY.out]
                        refine (rplain_one s[q] false HP.out _).mono ?_
                        rintro e w' ⟨rfl, rfl⟩
                        go_wp2_with fail
                        refine (Tryd.strings_HasPrefix r ⟨#[13, 10]⟩ _).mono ?_
                        rintro e w' ⟨rfl, rfl⟩
                        rw [HR.out, HB1.out]
                        go_wp2_with fail
                        refine (Tryd.strings_HasPrefix ⟨#[13, 10]⟩ r _).mono ?_
                        rintro e w' ⟨rfl, rfl⟩
                        rw [HR.out, HB2.out]
                        go_wp2_with fail
                        go_ret3
                        exact ⟨0, 0, 3, rfl, .inr (.inl ⟨rfl, HQ.out⟩), rfl⟩
                    · have HP : Hid (plainB s[q] = true) := hp
                      have HNX : Hid (ExtS s.data.toList (m + 1) n (q + 1)) := ext_next HE.out hm HGQ.out hp
                      clear hp
                      go_wp2_with fail
                      rw [HYY.out]
                      refine (rplain_one s[q] true HP.out _).mono ?_
                      rintro e w' ⟨rfl, rfl⟩
                      go_wp2_with fail
                      go_round
                      case rel => exact ⟨q + 1, m + 1, by go_num, by go_num, by omega, by omega, HNX.out⟩
                      case measure => simp [intOf]; omega
                  · have hqi : ¬ (q : Int) < (s.size : Int) := by omega
                    have HFIN : Hid (Fin2 s.data.toList q n) := fin_ext HE.out (.inr (.inl (by rw [HSL.out]; omega)))
                    rcases fin_cases HFIN.out with ⟨b1, hq⟩ | ⟨b1, b2, hq⟩ | ⟨b1, b2, hq⟩
                    · have HB1 : Hid (Lib.hasPrefix (s.data.toList.drop q) [13, 10] = true) := b1
                      have HQ : Hid (HeadR s.data.toList n (q + 2)) := hq
                      clear b1 hq
                      go_wp2_with fail
                      refine (Tryd.strings_HasPrefix r ⟨#[13, 10]⟩ _).mono ?_
                      rintro e w' ⟨rfl, rfl⟩
                      rw [HR.out, HB1.out]
                      go_wp2_with fail
                      go_ret3
                      exact ⟨n, q + 2, 0, ret_iii rfl (by go_num) rfl, .inr (.inr ⟨rfl, HQ.out⟩), rfl⟩
                    · have HB1 : Hid (Lib.hasPrefix (s.data.toList.drop q) [13, 10] = false) := b1
                      have HB2 : Hid (Lib.hasPrefix [13, 10] (s.data.toList.drop q) = true) := b2
                      have HQ : Hid (ShortR s.data.toList) := hq
                      clear b1 b2 hq
                      go_wp2_with fail
                      refine (Tryd.strings_HasPrefix r ⟨#[13, 10]⟩ _).mono ?_
                      rintro e w' ⟨rfl, rfl⟩
                      rw [HR.out, HB1.out]
                      go_wp2_with fail
                      refine (Tryd.strings_HasPrefix ⟨#[13, 10]⟩ r _).mono ?_
                      rintro e w' ⟨rfl, rfl⟩
                      rw [HR.out, HB2.out]
                      go_wp2_with fail
                      go_ret3
                      exact ⟨0, 0, 8, rfl, .inl ⟨rfl, HQ.out⟩, rfl⟩
                    · have HB1 : Hid (Lib.hasPrefix (s.data.toList.drop q) [13, 10] = false) := b1
                      have HB2 : Hid (Lib.hasPrefix [13, 10] (s.data.toList.drop q) = false) := b2
                      have HQ : Hid (BadR s.data.toList) := hq
                      clear b1 b2 hq
                      go_wp2_with fail
                      refine (Tryd.strings_HasPrefix r ⟨#[13, 10]⟩ _).mono ?_
                      rintro e w' ⟨rfl, rfl⟩
                      rw [HR.out, HB1.out]
                      go_wp2_with fail
                      refine (Tryd.strings_HasPrefix ⟨#[13, 10]⟩ r _).mono ?_
                      rintro e w' ⟨rfl, rfl⟩
                      rw [HR.out, HB2.out]
                      go_wp2_with fail
                      go_ret3
                      exact ⟨0, 0, 3, rfl, .inr (.inl ⟨rfl, HQ.out⟩), rfl⟩
                · have hmi : ¬ (m : Int) < 50 := by omega
                  have HFIN : Hid (Fin2 s.data.toList q n) := fin_ext HE.out (.inl (by omega))
                  rcases fin_cases HFIN.out with ⟨b1, hq⟩ | ⟨b1, b2, hq⟩ | ⟨b1, b2, hq⟩
                  · have HB1 : Hid (Lib.hasPrefix (s.data.toList.drop q) [13, 10] = true) := b1
                    have HQ : Hid (HeadR s.data.toList n (q + 2)) := hq
                    clear b1 hq
                    go_wp2_with fail
                    refine (Tryd.strings_HasPrefix r ⟨#[13, 10]⟩ _).mono ?_
                    rintro e w' ⟨rfl, rfl⟩
                    rw [HR.out, HB1.out]
                    go_wp2_with fail
                    go_ret3
                    exact ⟨n, q + 2, 0, ret_iii rfl (by go_num) rfl, .inr (.inr ⟨rfl, HQ.out⟩), rfl⟩
                  · have HB1 : Hid (Lib.hasPrefix (s.data.toList.drop q) [13, 10] = false) := b1
                    have HB2 : Hid (Lib.hasPrefix [13, 10] (s.data.toList.drop q) = true) := b2
                    have HQ : Hid (ShortR s.data.toList) := hq
                    clear b1 b2 hq
                    go_wp2_with fail
                    refine (Tryd.strings_HasPrefix r ⟨#[13, 10]⟩ _).mono ?_
                    rintro e w' ⟨rfl, rfl⟩
                    rw [HR.out, HB1.out]
                    go_wp2_with fail
                    refine (Tryd.strings_HasPrefix ⟨#[13, 10]⟩ r _).mono ?_
                    rintro e w' ⟨rfl, rfl⟩
                    rw [HR.out, HB2.out]
                    go_wp2_with fail
                    go_ret3
                    exact ⟨0, 0, 8, rfl, .inl ⟨rfl, HQ.out⟩, rfl⟩
                  · have HB1 : Hid (Lib.hasPrefix (s.data.toList.drop q) [13, 10] = false) := b1
                    have HB2 : Hid (Lib.hasPrefix [13, 10] (s.data.toList.drop q) = false) := b2
                    have HQ : Hid (BadR s.data.toList) := hq
                    clear b1 b2 hq
                    go_wp2_with fail
                    refine (Tryd.strings_HasPrefix r ⟨#[13, 10]⟩ _).mono ?_
                    rintro e w' ⟨rfl, rfl⟩
                    rw [HR.out, HB1.out]
                    go_wp2_with fail
                    refine (Tryd.strings_HasPrefix ⟨#[13, 10]⟩ r _).mono ?_
                    rintro e w' ⟨rfl, rfl⟩
                    rw [HR.out, HB2.out]
                    go_wp2_with fail
                    go_ret3
                    exact ⟨0, 0, 3, rfl, .inr (.inl ⟨rfl, HQ.out⟩), rfl⟩
          · have h59' : ((s[k].toNat : Int) == 59) = false := by
              rw [beq_eq_false_iff_ne]; intro h
              exact h59 (UInt8.toNat.inj (by rw [show (59 : UInt8).toNat = 59 from rfl]; omega))
            have HFIN : Hid (Fin2 s.data.toList k n) := fin_num HN.out (by omega) HG.out HST.out h59
            have hdone : (k : Int) < 4 ∨ ¬ (k : Int) < 4 := by omega
            clear hstop h59
            rcases hdone with h4 | h4
            all_goals
              rcases fin_cases HFIN.out with ⟨b1, hq⟩ | ⟨b1, b2, hq⟩ | ⟨b1, b2, hq⟩
              · have HB1 : Hid (Lib.hasPrefix (s.data.toList.drop k) [13, 10] = true) := b1
                have HQ : Hid (HeadR s.data.toList n (k + 2)) := hq
                clear b1 hq
                go_wp2_with (go_at_call 48; rw [HXX.out]; refine (hexin_at s[k] false (HHH.out (by omega)) _).mono ?_; rintro e w' ⟨rfl, rfl⟩)
                refine (Tryd.strings_HasPrefix r ⟨#[13, 10]⟩ _).mono ?_
                rintro e w' ⟨rfl, rfl⟩
                rw [HR.out, HB1.out]
                go_wp2_with fail
                go_ret3
                exact ⟨n, k + 2, 0, ret_iii rfl (by go_num) rfl, .inr (.inr ⟨rfl, HQ.out⟩), rfl⟩
              · have HB1 : Hid (Lib.hasPrefix (s.data.toList.drop k) [13, 10] = false) := b1
                have HB2 : Hid (Lib.hasPrefix [13, 10] (s.data.toList.drop k) = true) := b2
                have HQ : Hid (ShortR s.data.toList) := hq
                clear b1 b2 hq
                go_wp2_with (go_at_call 48; rw [HXX.out]; refine (hexin_at s[k] false (HHH.out (by omega)) _).mono ?_; rintro e w' ⟨rfl, rfl⟩)
                refine (Tryd.strings_HasPrefix r ⟨#[13, 10]⟩ _).mono ?_
                rintro e w' ⟨rfl, rfl⟩
                rw [HR.out, HB1.out]
                go_wp2_with fail
                refine (Tryd.strings_HasPrefix ⟨#[13, 10]⟩ r _).mono ?_
                rintro e w' ⟨rfl, rfl⟩
                rw [HR.out, HB2.out]
                go_wp2_with fail
                go_ret3
                exact ⟨0, 0, 8, rfl, .inl ⟨rfl, HQ.out⟩, rfl⟩
              · have HB1 : Hid (Lib.hasPrefix (s.data.toList.drop k) [13, 10] = false) := b1
                have HB2 : Hid (Lib.hasPrefix [13, 10] (s.data.toList.drop k) = false) := b2
                have HQ : Hid (BadR s.data.toList) := hq
                clear b1 b2 hq
                go_wp2_with (go_at_call 48; rw [HXX.out]; refine (hexin_at s[k] false (HHH.out (by omega)) _).mono ?_; rintro e w' ⟨rfl, rfl⟩)
                refine (Tryd.strings_HasPrefix r ⟨#[13, 10]⟩ _).mono ?_
                rintro e w' ⟨rfl, rfl⟩
                rw [HR.out, HB1.out]
                go_wp2_with fail
                refine (Tryd.strings_HasPrefix ⟨#[13, 10]⟩ r _).mono ?_
                rintro e w' ⟨rfl, rfl⟩
                rw [HR.out, HB2.out]
                go_wp2_with fail
                go_ret3
                exact ⟨0, 0, 3, rfl, .inr (.inl ⟨rfl, HQ.out⟩), rfl⟩
    · obtain rfl : k = s.size := by omega
      have HQ : Hid (ShortR s.data.toList) := nm_short HN.out (by rw [HSL.out])
      have hki : ¬ (s.size : Int) < (s.size : Int) := by omega
      go_wp2_with fail
      go_ret3
      exact ⟨0, 0, 8, rfl, .inl ⟨rfl, HQ.out⟩, rfl⟩
end Go.Proofs.YtofafonppajfkaaDoor
