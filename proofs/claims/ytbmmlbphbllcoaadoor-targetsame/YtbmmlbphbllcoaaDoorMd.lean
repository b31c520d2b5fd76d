/-
  What Normal of the document's answers computes: the one form of a target, by rewriting its steps; the package variable that the library's search reads holds some number.
-/
import Derived.Test.YtbmmlbphbllcoaaDoorMc
import Derived.Deep.LoopGhost
namespace Go.Proofs.YtbmmlbphbllcoaaDoor
open Go.RowKit

theorem toL_eq (a : ByteArray) (l : List UInt8) (h : a.data.toList = l) : a.toList = l := by rw [ByteArray.toList_eq]; exact h
theorem ret_sn {a b : ByteArray} {c d : Int} (h : a = b) (h' : c = d) : Ending.returned (.tuple #[.string a, .int .i64 c]) = .returned (.tuple #[.string b, .int .i64 d]) := by rw [h, h']
theorem ba_ofl (l : List UInt8) : ∃ b : ByteArray, b.data.toList = l := ⟨⟨l.toArray⟩, rfl⟩
theorem ba_nilr (t : ByteArray) (h : t.data.toList = []) : t = ⟨#[]⟩ := by apply ByteArray.ext; apply Array.ext'; exact h
theorem plain_low (l : List UInt8) (h : allPlain l = true) : ∀ (j : Nat) b, l[j]? = some b → b.toNat < 128 := by
  intro j b hb
  have hb := List.all_eq_true.1 h b (List.mem_of_getElem? hb)
  have := byAll (fun c => decide (plainB c = true → c.toNat < 128)) (by decide +kernel) b
  exact (of_decide_eq_true this) hb
theorem prT_le (ts : List Tk) : (prT ts).length ≤ 3 * ts.length := by
  induction ts with
  | nil => simp [prT]
  | cons t ts ih =>
    rw [prT_cons, List.length_append, List.length_cons]
    have : (pr1 t).length ≤ 3 := by unfold pr1; split <;> simp [escB]
    omega
theorem low3 : ∀ (j : Nat) b, (⟨#[32, 35, 9]⟩ : ByteArray).data.toList[j]? = some b → b.toNat < 128 := by
  intro j b hb
  have := List.mem_of_getElem? hb
  simp at this
  rcases this with rfl | rfl | rfl <;> decide
theorem wordsB_len (d : UInt8) (ws : List (List UInt8)) : ws.length ≤ (wordsB d ws).length := by
  induction ws with
  | nil => simp
  | cons x ws ih => rw [wordsB_cons, List.length_cons, List.length_cons, List.length_append]; omega
theorem rsplit_at (p : ByteArray) (ws : List (List UInt8)) (hp : p.data.toList = wordsB 47 ws) (hno : ∀ x ∈ ws, ∀ b ∈ x, b ≠ 47) (m : Int) (w : World) (hm : w.cell? ⟨0, 0, none⟩ = some (.int .i64 m)) (hsz : p.size ≤ 1000) :
    Calls Tryd.prog 16 #[.string p, .string ⟨#[47]⟩] w fun e w' => ∃ v, e = .returned v ∧ Sl w' v ([] :: ws) ∧ Below w.heap.size w w' := by
  obtain ⟨hc, hb⟩ := splitB_words 47 p [] ws hp (fun b hb => by cases hb) hno
  have hl := wordsB_len 47 ws
  rw [← hp, size_list] at hl
  refine (Tryd.strings_Split p ⟨#[47]⟩ m w (by omega) hm (by decide)).mono ?_
  rintro e w' ⟨rfl, rfl⟩
  rw [hb, hc]
  refine ⟨_, rfl, ⟨w.heap.size, 0, ws.length + 1, rfl, Nat.le_refl _, by unfold maxLen; omega, by simp, fun k hk => ?_⟩, below_alloc _ _⟩
  rw [Nat.zero_add, World.cell?_alloc_at _ _ _ _ (by simp)]
  simp only [List.getElem?_toArray, List.getElem?_map, List.getElem?_eq_getElem hk, Option.map_some]
theorem rjoin_at (v : Value) (ss : List (List UInt8)) (w : World) (h : Sl w v ss) (hl : (Lib.join ss [47]).length ≤ 140737488355328) (hn : ss.length ≤ 140737488355328) :
    Calls Tryd.prog 36 #[v, .string ⟨#[47]⟩] w fun e w' => e = .returned (.string ⟨(Lib.join ss [47]).toArray⟩) ∧ Below w.heap.size w w' := by
  obtain ⟨g, off, cap, rfl, h1, h2, hg, hc⟩ := h
  have he : (ss.map fun l => (⟨l.toArray⟩ : ByteArray)).map (·.data.toList) = ss := by
    rw [List.map_map]
    conv => rhs; rw [← List.map_id ss]
    exact List.map_congr_left fun x _ => rfl
  have c := Tryd.strings_Join g off cap (ss.map fun l => (⟨l.toArray⟩ : ByteArray)) ⟨#[47]⟩ w (fun j x hx => by
    rw [List.getElem?_map] at hx
    cases hj : ss[j]? with
    | none => rw [hj] at hx; cases hx
    | some l =>
      rw [hj] at hx
      obtain rfl := Option.some.inj hx
      obtain ⟨hjl, hje⟩ := List.getElem?_eq_some_iff.1 hj
      rw [hc j hjl, hje]) hg (by rw [List.length_map]; exact hn) (by rw [List.length_map]; exact h1) (by rw [he]; exact hl)
  rw [he, List.length_map] at c
  exact c
set_option maxHeartbeats 8000000 in
set_option maxRecDepth 100000 in
theorem rnorm_at (s t : ByteArray) (c : Int) (h : nrmR s.data.toList = (t.data.toList, c)) (m : Int) (w : World) (hm : w.cell? ⟨0, 0, none⟩ = some (.int .i64 m)) :
    Calls Tryd.prog 14 #[.string s] w fun e w' => e = .returned (.tuple #[.string t, .int .i64 c]) ∧ Below w.heap.size w w' := by
  have HM : Hid (w.cell? ⟨0, 0, none⟩ = some (.int .i64 m)) := hm
  clear hm
  obtain ⟨i0, hi, hz0, hz1, hz2⟩ := info_parts info9
  by_cases hs : s.size ≤ 200
  · have hs' : ¬ (200 : Int) < (s.size : Int) := by omega
    have hl : ¬ 200 < s.data.toList.length := by rw [size_list]; omega
    cases hu : unT s.data.toList with
    | none =>
      rw [nrm_none _ hl hu] at h
      obtain rfl := ba_nilr t (Prod.mk.inj h).1.symm
      obtain rfl := (Prod.mk.inj h).2
      have HU : Hid (unT s.data.toList = none) := hu
      clear hl hu h
      go_enter Tryd.func14, Tryd.ntmps14
      go_wp2_with fail
      refine (runesc_any s _ hs).mono ?_
      rintro e w1 ⟨hb1, he⟩
      rcases he with ⟨_, rfl⟩ | ⟨ts, v, h, _⟩
      · go_wp2_with fail
        go_ret2
        exact ⟨rfl, hb1⟩
      · rw [HU.out] at h; cases h
    | some ts =>
      have HU : Hid (unT s.data.toList = some ts) := hu
      have hn := nrm_parts3 _ hl ts hu
      by_cases hok : Lib.hasPrefix s.data.toList [47] = true ∧ allPlain s.data.toList = true ∧ Lib.containsAny s.data.toList [32, 35, 9] = false
      · rw [hn, if_pos hok] at h
        obtain rfl := (Prod.mk.inj h).2
        have ht := (Prod.mk.inj h).1.symm
        obtain ⟨h1, h2, h3⟩ := hok
        have H1 : Hid (Lib.hasPrefix s.data.toList [47] = true) := h1
        have H2 : Hid (allPlain s.data.toList = true) := h2
        have H3 : Hid (Lib.containsAny s.data.toList [32, 35, 9] = false) := h3
        obtain ⟨ts', hts'⟩ : ∃ ts', ts = sl :: ts' := by
          rcases nrm_cases s.data.toList with ⟨c', hc', he⟩ | ⟨_, ts', _, _, _, hu', _⟩
          · rw [hn, if_pos ⟨h1, h2, h3⟩] at he; exact absurd (Prod.mk.inj he).2.symm hc'
          · rw [hu] at hu'; exact ⟨ts', Option.some.inj hu'⟩
        have htl := un_len _ _ hu
        have hpc := pr_can ts
        rw [size_list] at htl
        obtain ⟨htl1, htl2⟩ := htl
        obtain ⟨cs, hcs⟩ : ∃ cs, cs = ts.map can := ⟨_, rfl⟩
        have HTK : Hid (TkOk cs) := by show TkOk cs; rw [hcs]; exact can_ok _ (un_ok _ _ hu)
        have HCS : Hid (cs = ts.map can) := hcs
        have HT : Hid (t.data.toList = prT (remT cs)) := by show _ = _; rw [hcs]; exact ht
        have HTS : Hid (ts = sl :: ts') := hts'
        have hpl : (prT cs).length ≤ 200 := by rw [hcs]; omega
        have hfs : (firsts ts).size = ts.length := by rw [← size_list]; simp [firsts]
        have hts0 : 0 < ts.length := by rw [hts']; simp
        have htl3 : ts.length ≤ 200 := by omega
        clear hl hu h hn h1 h2 h3 hts' hcs ht hpc htl1 htl2
        go_enter Tryd.func14, Tryd.ntmps14
        go_wp2_with fail
        refine (runesc_any s _ hs).mono ?_
        rintro e w1 ⟨hb1, he⟩
        rcases he with ⟨h, _⟩ | ⟨us, v, h, rfl, hown⟩
        · rw [HU.out] at h; cases h
        · rw [HU.out] at h
          obtain rfl := Option.some.inj h
          obtain ⟨ad, cap, rfl, hcm, hnc, hcell⟩ := own_form2 hown
          obtain ⟨g, rfl, _, hg1, hce⟩ := hcell hts0
          clear hown h
          unfold maxLen at hcm
          go_wp2_with fail
          refine (Tryd.strings_HasPrefix s ⟨#[47]⟩ _).mono ?_
          rintro e w2 ⟨rfl, rfl⟩
          rw [show (⟨#[47]⟩ : ByteArray).data.toList = [47] from rfl, H1.out]
          go_wp2_with fail
          refine (rplain_any s _ (by unfold maxLen; omega)).mono ?_
          rintro e w2 ⟨rfl, rfl⟩
          rw [H2.out]
          go_wp2_with fail
          refine (Tryd.strings_ContainsAny_laid s ⟨#[32, 35, 9]⟩ _ (by omega) (by decide) (plain_low _ H2.out) low3).mono ?_
          rintro e w3 ⟨rfl, hb3⟩
          rw [show (⟨#[32, 35, 9]⟩ : ByteArray).data.toList = [32, 35, 9] from rfl, H3.out]
          have hw3 := hb1.trans (hb3.mono hb1.size)
          have hg3 : g < w3.heap.size := Nat.lt_of_lt_of_le hg1 hb3.size
          have HCE : Hid (∀ (j : Nat) (hj : j < ts.length), w3.cell? ⟨g, j, none⟩ = some (.bool ts[j].2)) := by
            intro j hj
            refine (hb3.cell (p := ⟨g, j, none⟩) hg1).trans ((hce j (by omega)).trans ?_)
            unfold seconds
            rw [List.getElem?_map, List.getElem?_eq_getElem hj]; rfl
          clear hb1 hb3 hce
          go_wp2_with fail
          go_loopw [7, 43] (fun pv i wr => ∃ (k : Nat) (o : ByteArray), k ≤ ts.length ∧ i = .int .i64 k ∧ pv = .string o ∧ o.data.toList = prT ((ts.take k).map can) ∧ Below w3.heap.size w3 wr) (fun _ i _ => ts.length - (intOf i).toNat)
          case atStart => exact ⟨0, ⟨#[]⟩, Nat.zero_le _, rfl, rfl, rfl, Below.refl _ _⟩
          case round =>
            obtain ⟨k, o, hk, rfl, rfl, ho, hwr⟩ := hrel
            have HO : Hid (o.data.toList = prT ((ts.take k).map can)) := ho
            have hos : o.size ≤ 3 * k := by
              rw [← size_list, ho]
              have h1 := prT_le ((ts.take k).map can)
              rw [List.length_map] at h1
              have := List.length_take_le k ts
              omega
            clear ho
            by_cases hlt : k < ts.length
            · obtain ⟨q, hq, hqs, hsq⟩ := slice_part (firsts ts) k (k + 1) (by omega) (by omega)
              have hqe : q = ⟨#[ts[k].1]⟩ := by
                apply ByteArray.ext; apply Array.ext'
                rw [hq, show k + 1 - k = 1 by omega]
                show ((ts.map (·.1)).drop k).take 1 = _
                rw [List.drop_eq_getElem_cons (by simpa using hlt)]
                simp
              subst hqe
              have hcl := (hwr.cell (p := ⟨g, k, none⟩) hg3).trans (HCE.out k hlt)
              have htk : (ts.take (k + 1)).map can = (ts.take k).map can ++ [can ts[k]] := by
                rw [List.take_succ_eq_append_getElem hlt, List.map_append]; rfl
              obtain ⟨d, b, hd⟩ : ∃ d b, ts[k] = (d, b) := ⟨_, _, rfl⟩
              rw [hd] at hsq hcl htk
              simp only at hsq hcl
              have hsq' : ∀ w, (Instr.slice 9 (.string (firsts ts)) (some (.int .i64 (k : Int))) (some (.int .i64 ((k : Int) + 1))) none).run Tryd.prog w = .ok (.string ⟨#[d]⟩) w := fun w => by simpa using hsq w
              have HTK2 : Hid ((ts.take (k + 1)).map can = (ts.take k).map can ++ [can (d, b)]) := htk
              have hki : (k : Int) < (ts.length : Int) := by omega
              have hki2 : (k : Int) < ((firsts ts).size : Int) := by omega
              have hk0 : (0 : Int) ≤ (k : Int) := by omega
              have HMr : Hid (wr.cell? ⟨0, 0, none⟩ = some (.int .i64 m)) := cell_keep (hw3.trans (hwr.mono hw3.size)) HM.out
              clear hq hqs hsq htk hd hfs
              have hgr : g < wr.heap.size := Nat.lt_of_lt_of_le hg3 hwr.size
              cases b
              · have HO2 : Hid ((o ++ ⟨#[d]⟩).data.toList = prT ((ts.take (k + 1)).map can)) := by
                  show _ = _
                  rw [HTK2.out, prT_app, ByteArray.data_append, Array.toList_append, HO.out]; rfl
                have hadd : ¬ 9223372036854775807 < o.size + 1 := by omega
                go_wp2_with fail
                go_roundw
                case rel => exact ⟨k + 1, _, by omega, by go_num, rfl, HO2.out, hwr⟩
                case measure => simp [intOf]; omega
              · cases hf : freeB d
                · have HFR : Hid (freeB d = false) := hf
                  have HO2 : Hid ((o ++ ⟨(escB d).toArray⟩).data.toList = prT ((ts.take (k + 1)).map can)) := by
                    show _ = _
                    rw [HTK2.out, prT_app, ByteArray.data_append, Array.toList_append, HO.out]
                    simp [can, hf, prT, pr1]
                  have hadd : ¬ 9223372036854775807 < o.size + (⟨(escB d).toArray⟩ : ByteArray).size := by show ¬ _ < o.size + 3; omega
                  clear hf
                  go_wp2_with fail
                  refine (rfree_at d m _ HMr.out).mono ?_
                  rintro e w4 ⟨rfl, rfl⟩
                  rw [HFR.out]
                  go_wp2_with fail
                  refine (resc_any d _).mono ?_
                  rintro e w5 ⟨rfl, nd, rfl⟩
                  obtain ⟨x, hx⟩ : ∃ x : ByteArray, x = ⟨(escB d).toArray⟩ := ⟨_, rfl⟩
                  rw [← hx] at hadd HO2 ⊢
                  clear hx
                  have hw5 := hwr.trans ((drewN_below w4.heap.size w4 nd).mono hwr.size)
                  go_wp2_with fail
                  go_roundw
                  case rel => exact ⟨k + 1, _, by omega, by go_num, rfl, HO2.out, hw5⟩
                  case measure => simp [intOf]; omega
                · have HFR : Hid (freeB d = true) := hf
                  have HO2 : Hid ((o ++ ⟨#[d]⟩).data.toList = prT ((ts.take (k + 1)).map can)) := by
                    show _ = _
                    rw [HTK2.out, prT_app, ByteArray.data_append, Array.toList_append, HO.out]
                    simp [can, hf, prT, pr1]
                  have hadd : ¬ 9223372036854775807 < o.size + 1 := by omega
                  clear hf
                  go_wp2_with fail
                  refine (rfree_at d m _ HMr.out).mono ?_
                  rintro e w4 ⟨rfl, rfl⟩
                  rw [HFR.out]
                  go_wp2_with fail
                  go_roundw
                  case rel => exact ⟨k + 1, _, by omega, by go_num, rfl, HO2.out, hwr⟩
                  case measure => simp [intOf]; omega
            · obtain rfl : k = ts.length := by omega
              have hoe : o.data.toList = prT cs := by rw [HO.out, List.take_length, HCS.out]
              have HOE : Hid (o.data.toList = prT cs) := hoe
              have hw : Below w.heap.size w wr := hw3.trans (hwr.mono hw3.size)
              have HMr : Hid (wr.cell? ⟨0, 0, none⟩ = some (.int .i64 m)) := cell_keep hw HM.out
              have hosz : o.size ≤ 200 := by rw [← size_list, hoe]; exact hpl
              obtain ⟨S, hS⟩ : ∃ S, S = (segs (pathT cs)).tail := ⟨_, rfl⟩
              obtain ⟨cs', hcs'⟩ : ∃ cs', cs = sl :: cs' := ⟨ts'.map can, by rw [HCS.out, HTS.out]; rfl⟩
              have hpj : pathT cs = joinS S := by rw [hS, hcs', path_sl, segs_sl_join]
              have HPJ : Hid (wordsB 47 (S.map prT) = prT (pathT cs)) := by show _ = _; rw [hpj, wordsB_join]
              have HSN : Hid (∀ x ∈ S.map prT, ∀ b ∈ x, b ≠ 47) := by
                intro x hx
                obtain ⟨y, hy, rfl⟩ := List.mem_map.1 hx
                rw [hS] at hy
                exact pr_no y 47 (by decide) (by decide) (segs_ok _ y (List.mem_of_mem_tail hy))
              have HST : Hid (∀ x ∈ S, TkOk x) := by
                intro x hx t ht hf
                rw [hS] at hx
                exact HTK.out t (List.takeWhile_subset _ (segs_mem _ x (List.mem_of_mem_tail hx) t ht)) hf
              have hS0 : S ≠ [] := by rw [hS, hcs']; exact tail_ne cs'
              have HL : Hid (t.data.toList = prT (joinS (remS [] S)) ++ prT (restT cs)) := by
                show _ = _
                rw [HT.out, remT_eq, prT_app, hS]; rfl
              have htsz : t.size ≤ 200 := by
                rw [← size_list, HT.out, hcs']
                have := (remT_len cs').1
                rw [← hcs'] at this ⊢
                omega
              have HS0 : Hid (S ≠ []) := hS0
              have hpr := path_rest cs
              have hpq : prT cs = prT (pathT cs) ++ prT (restT cs) := by rw [← prT_app, hpr]
              have hno : ∀ b ∈ prT (pathT cs), b ≠ 63 := pr_no _ 63 (by decide) (by decide) (path_no cs)
              have hSl : S.length ≤ 200 := by
                have h1 := wordsB_len 47 (S.map prT)
                rw [HPJ.out, List.length_map] at h1
                have := congrArg List.length hpq
                rw [List.length_append] at this
                omega
              have HSL : Hid (S.length ≤ 200) := hSl
              have HTZ : Hid (t.size ≤ 200) := htsz
              clear hS hcs' hpj hS0 htsz hpr hSl hfs hpl
              go_wp2_with fail
              refine (Tryd.strings_Index o ⟨#[63]⟩ m _ (by omega) HMr.out).mono ?_
              rintro e w4 ⟨rfl, rfl⟩
              rcases rest_head cs with hr | ⟨q, hr⟩
              · have hix : Lib.index o.data.toList (⟨#[63]⟩ : ByteArray).data.toList = -1 := by
                  rw [hoe, hpq, hr, prT_nil, List.append_nil]
                  exact index_none_byte 63 _ hno
                rw [hix]
                obtain ⟨p, hp⟩ : ∃ p : ByteArray, p = o := ⟨_, rfl⟩
                obtain ⟨u, hu⟩ : ∃ u : ByteArray, u = ⟨#[]⟩ := ⟨_, rfl⟩
                have HP : Hid (p.data.toList = prT (pathT cs)) := by show _ = _; rw [hp, hoe, hpq, hr, prT_nil, List.append_nil]
                have HQ : Hid (u.data.toList = prT (restT cs)) := by show _ = _; rw [hr, hu]; rfl
                rw [← hp]
                have hps : p.size ≤ 200 := by rw [hp]; exact hosz
                have hus : u.size ≤ 200 := by rw [hu]; exact Nat.zero_le _
                have HU2 : Hid (⟨#[]⟩ = u) := hu.symm
                clear hix hr hpq hno hoe hp hu
                go_wp2_with fail
                refine (rsplit_at p (S.map prT) (by rw [HPJ.out]; exact HP.out) HSN.out m _ HMr.out (by omega)).mono ?_
                rintro e w7 ⟨v7, rfl, hs7, hb7⟩
                have hw7 := hw.trans (hb7.mono hw.size)
                obtain ⟨v8, hr8, hs8⟩ := hs7.drop 1 (by simp)
                have hr8' : ∀ W, (Instr.slice 27 v7 (some (.int .i64 1)) none none).run Tryd.prog W = .ok v8 W := fun W => by simpa using hr8 W
                have HS8 : Hid (Sl w7 v8 (S.map prT)) := by show Sl _ _ _; simpa using hs8
                clear hr8 hs8 hs7 hb7
                go_wp2_with fail
                clear hr8'
                go_loopg [12, 13] (sizeS S) (fun gk sv iv wq => ∃ (st td : List Step), gk = sizeS td ∧ iv = .int .i64 st.length ∧ Sl wq sv ((st ++ td).map prT) ∧ remS st td = remS [] S ∧ (∀ x ∈ st ++ td, TkOk x) ∧ (st ++ td).length ≤ 200 ∧ Below w.heap.size w wq)
                case atStart => exact ⟨[], S, rfl, rfl, HS8.out, rfl, HST.out, HSL.out, hw7⟩
                case round =>
                  obtain ⟨st, td, hgk, rfl, hsl, hrem, hokk, hll, hwq⟩ := hrel
                  have HRE : Hid (remS st td = remS [] S) := hrem
                  have HOK : Hid (∀ x ∈ st ++ td, TkOk x) := hokk
                  have HGK : Hid (gk = sizeS td) := hgk
                  clear hrem hokk hgk
                  cases td with
                  | nil =>
                    have hst : remS [] S = st := by rw [← HRE.out, remS]
                    have HLL : Hid (t.data.toList = prT (joinS st) ++ prT (restT cs)) := by show _ = _; rw [HL.out, hst]
                    have hst0 : st ≠ [] := by rw [← hst]; exact remS_ne S [] HS0.out
                    rw [List.append_nil] at hsl hll
                    obtain ⟨jl, hjl⟩ := ba_ofl (Lib.join (st.map prT) [47])
                    have htt : t.data.toList = 47 :: (jl.data.toList ++ u.data.toList) := by
                      rw [HLL.out, hjl, HQ.out]
                      obtain ⟨x, xs, rfl⟩ := List.exists_cons_of_ne_nil hst0
                      rw [← join_words]; rfl
                    have htsz := congrArg List.length htt
                    rw [List.length_cons, List.length_append, size_list, size_list, size_list] at htsz
                    have HTT : Hid (⟨#[47]⟩ ++ jl ++ u = t) := by
                      show _ = _
                      apply ByteArray.ext; apply Array.ext'
                      rw [ByteArray.data_append, Array.toList_append, ByteArray.data_append, Array.toList_append, htt]; rfl
                    have HJL : Hid ((⟨(Lib.join (st.map prT) [47]).toArray⟩ : ByteArray) = jl) := by
                      show _ = _
                      apply ByteArray.ext; apply Array.ext'; exact hjl.symm
                    have hjs : jl.size ≤ 200 := by have := HTZ.out; omega
                    have hjn : (Lib.join (st.map prT) [47]).length ≤ 140737488355328 := by rw [← hjl, size_list]; omega
                    have HJN : Hid ((Lib.join (st.map prT) [47]).length ≤ 140737488355328) := hjn
                    have HSL2 : Hid (Sl wr _ (st.map prT)) := hsl
                    obtain ⟨g9, off9, cap9, rfl, _⟩ := id hsl
                    obtain ⟨n9, hn9⟩ : ∃ n9, n9 = (st.map prT).length := ⟨_, rfl⟩
                    have hn9' : n9 = st.length := by rw [hn9, List.length_map]
                    rw [← hn9, ← hn9'] 
                    have HSL3 : Hid (Sl wr (.slice (some ⟨g9, off9, none⟩) n9 cap9) (st.map prT)) := by rw [hn9]; exact HSL2.out
                    clear HSL2 hsl htt htsz hjl hst hst0 hjn hn9 hn9'
                    go_wp2_with fail
                    refine (rjoin_at _ (st.map prT) _ HSL3.out HJN.out (by rw [List.length_map]; omega)).mono ?_
                    rintro e w10 ⟨rfl, hb10⟩
                    rw [HJL.out]
                    have hw10 := hwq.trans (hb10.mono hwq.size)
                    have hadd1 : ¬ 9223372036854775807 < 1 + jl.size := by omega
                    have hadd2 : ¬ 9223372036854775807 < (⟨#[47]⟩ ++ jl : ByteArray).size + u.size := by rw [ByteArray.size_append]; show ¬ _ < 1 + jl.size + u.size; omega
                    clear hb10 hwq
                    go_wp2_with fail
                    go_ret2
                    refine ⟨ret_sn ?_ rfl, hw10⟩
                    first | exact HTT.out | (rw [HU2.out]; exact HTT.out)
                  | cons x r =>
                    obtain ⟨n, hn⟩ : ∃ n, n = ((st ++ x :: r).map prT).length := ⟨_, rfl⟩
                    have hn1 : n = st.length + (r.length + 1) := by rw [hn]; simp
                    have HSLN : Hid (Sl wr _ ((st ++ x :: r).map prT)) := hsl
                    obtain ⟨g9, off9, cap9, hv9, hnc9, hcm9, hg9, hc9⟩ := hsl
                    rw [← hn] at hv9 hnc9
                    subst hv9
                    have hck := hc9 st.length (by rw [← hn]; omega)
                    obtain ⟨b, hb⟩ := ba_ofl (prT x)
                    have hbe : (⟨(((st ++ x :: r).map prT)[st.length]'(by rw [← hn]; omega)).toArray⟩ : ByteArray) = b := by
                      apply ByteArray.ext; apply Array.ext'
                      rw [hb]
                      simp
                    rw [hbe] at hck
                    unfold maxLen at hcm9
                    have hx : TkOk x := HOK.out x (by simp)
                    obtain ⟨hd1, hd2⟩ := dot_bytes x hx
                    rw [← hb] at hd1 hd2
                    have hbl : b.toList = b.data.toList := ByteArray.toList_eq b
                    have hl2 : st.length ≤ 200 := by rw [List.length_append] at hll; omega
                    have hi1 : (st.length : Int) < (n : Int) := by omega
                    have hi0 : (0 : Int) ≤ (st.length : Int) := by omega
                    have HN1 : Hid (n = st.length + (r.length + 1)) := hn1
                    have HLL : Hid ((st ++ x :: r).length ≤ 200) := hll
                    clear hn hc9 hbe hb hx hll hn1
                    by_cases hx1 : x = dot1
                    · have hq1 : (b.toList == [46]) = true := by rw [hbl]; simpa using hd1.2 hx1
                      have hq2 : (b.toList == [46, 46]) = false := by
                        rw [hbl, beq_eq_false_iff_ne]
                        intro h
                        have := hd2.1 h
                        rw [hx1] at this; exact absurd this (by decide)
                      have HX1 : Hid (x = dot1) := hx1
                      clear hd1 hd2 hbl hx1
                      obtain ⟨st2, hst2⟩ : ∃ st2, st2 = st := ⟨_, rfl⟩
                      have hl3 : st2.length = st.length := by rw [hst2]
                      have hst3 : ∀ y ∈ st2, y ∈ st := by rw [hst2]; exact fun y h => h
                      have HST2 : Hid (∀ r2 : List Step, (if r = [] then r2 = [[]] else r2 = r) → remS st2 r2 = remS st (x :: r)) := by
                        intro r2 h2
                        by_cases hr0 : r = []
                        · rw [if_pos hr0] at h2
                          subst h2; subst hr0
                          rw [remS_last, remS_last, if_neg nodots_nil.1, if_neg nodots_nil.2, if_pos HX1.out, hst2]
                        · rw [if_neg hr0] at h2
                          subst h2
                          rw [remS_more _ _ _ hr0, if_pos HX1.out, hst2]
                      have hpre : ((st ++ x :: r).map prT).take st2.length = st2.map prT := by
                        rw [hl3, ← List.map_take, hst2]
                        congr 1
                        rw [List.take_left' rfl]
                      have hdr : ((st ++ x :: r).map prT).drop (st.length + 1) = r.map prT := by
                        rw [← List.map_drop]
                        congr 1
                        rw [show st ++ x :: r = (st ++ [x]) ++ r by simp]
                        exact List.drop_left' (by simp)
                      obtain ⟨v11, hr11, hs11⟩ := HSLN.out.drop (st.length + 1) (by simp)
                      obtain ⟨v12, hr12, _⟩ := HSLN.out.take st2.length (by rw [hl3, List.length_map, List.length_append]; omega)
                      have HTAKE : Hid (∀ W : World, Below wr.heap.size wr W → Sl W v12 (st2.map prT)) := by
                        intro W hW
                        obtain ⟨v13, hr13, hs13⟩ := (HSLN.out.below hW).take st2.length (by rw [hl3, List.length_map, List.length_append]; omega)
                        have := (hr12 W).symm.trans (hr13 W)
                        injection this with this
                        rw [this, ← hpre]; exact hs13
                      rw [hdr] at hs11
                      have hr11' : ∀ W, (Instr.slice 27 (.slice (some ⟨g9, off9, none⟩) n cap9) (some (.int .i64 ((st.length : Int) + 1))) none none).run Tryd.prog W = .ok v11 W := fun W => by have := hr11 W; simpa using this
                      have hr12' : ∀ W, (Instr.slice 27 (.slice (some ⟨g9, off9, none⟩) n cap9) none (some (.int .i64 ((st.length : Int)))) none).run Tryd.prog W = .ok v12 W := fun W => by have := hr12 W; rw [hl3] at this; exact this
                      have HS11 : Hid (Sl wr v11 (r.map prT)) := hs11
                      have hl2r : r.length ≤ 200 := by have := HLL.out; rw [List.length_append, List.length_cons] at this; omega
                      have hl2s : st2.length ≤ 200 := by omega
                      clear hr11 hr12 hs11 hpre hdr hst2
                      by_cases hr0 : r = []
                      · have hr0l : r.length = 0 := by rw [hr0]; rfl
                        go_wp2_with fail
                        refine (copyS_any v11 (r.map prT) _ HS11.out (by rw [List.length_map]; omega)).mono ?_
                        rintro e w10 ⟨v13, rfl, hown13, hb10⟩
                        obtain ⟨ad13, cap13, rfl, _⟩ := own_form2 hown13
                        have hlz : (r.map prT).length = 0 := by rw [List.length_map]; exact hr0l
                        rw [hlz]
                        have hw10 := hwq.trans (hb10.mono hwq.size)
                        have HB11 : Hid (Below wr.heap.size wr (w10.alloc (.cells #[.string ⟨#[]⟩] 9))) := hb10.alloc hb10.size _
                        clear hown13 hlz
                        go_wp2_with fail
                        refine (copyS_any v12 (st2.map prT) _ (HTAKE.out _ HB11.out) (by rw [List.length_map]; omega)).mono ?_
                        rintro e w11 ⟨v14, rfl, hown14, hb11⟩
                        have hblk : w11.heap[w10.heap.size]? = some (.cells #[.string ⟨#[]⟩] 9 (0, 0)) := (hb11.block _ (by simp)).trans (heap_alloc_new _ _)
                        have hw11 := hw10.trans ((below_new hb11).mono hw10.size)
                        have hsz11 := hw11.size
                        have hsz14 := hb11.size
                        clear hb10 hb11 HB11
                        go_wp2_with (at_builtin; refine wpList_append_own _ rfl _ _ 27 rfl (w10.alloc (.cells #[.string ⟨#[]⟩] 9)).heap.size 9 i0 (.string ⟨#[]⟩) 1 16 Tryd.underlying27 hi hz0 hz1 hz2 rfl (by decide) v14 (st2.map prT).length (strsV (st2.map prT)) rfl hown14 ⟨w10.heap.size, 0, none⟩ 1 1 [.string ⟨#[]⟩] rfl rfl (World.news_of_block (cs := #[.string ⟨#[]⟩]) (t := 9) (fr := (0, 0)) hblk) ?c2 ?c3 ?c4 ?c5 ?_)
                        case c2 => intro z hz; simp at hz; subst hz; rfl
                        case c3 => rw [List.length_map]; unfold maxLen; omega
                        case c4 => rw [List.length_map]; omega
                        case c5 => exact hsz14
                        · intro v15 w12 hown15 hgrow _
                          have hB : Below w.heap.size w w12 := hw11.grown hgrow (by omega) (fun b' hb' => by have := (hown14.lt b' hb').1; simp at this; have := hw10.size; omega)
                          have hS15 : Sl w12 v15 ((st2 ++ [[]]).map prT) := by
                            refine Sl.own (B := w10.heap.size + 1) (e := 9) ?_ (by simp)
                            have e1 : strsV ((st2 ++ [[]]).map prT) = strsV (st2.map prT) ++ [.string ⟨#[]⟩] := by simp [strsV, prT]
                            have e2 : ((st2 ++ [[]]).map prT).length = (st2.map prT).length + 1 := by simp
                            rw [e1, e2, List.length_map, hl3]; exact hown15
                          clear hown15 hgrow hown14
                          go_wp2_with fail
                          go_roundg (sizeS [[]])
                          case measure => rw [HGK.out, sizeS_cons]; rw [HX1.out]; simp [sizeS, dot1]; omega
                          case rel =>
                            refine ⟨st2, [[]], rfl, by rw [hl3], hS15, ?_, ?_, ?_, hB⟩
                            · rw [HST2.out [[]] (by rw [if_pos hr0])]; exact HRE.out
                            · intro y hy
                              rcases List.mem_append.1 hy with hy | hy
                              · exact HOK.out y (List.mem_append_left _ (hst3 y hy))
                              · obtain rfl := List.mem_singleton.1 hy
                                intro t ht; cases ht
                            · have := HLL.out; rw [List.length_append, List.length_cons] at this ⊢; simp only [List.length_nil]; omega
                      · have hr0l : 0 < r.length := List.length_pos_iff.2 hr0
                        have hr0i : ((r.length : Int) == 0) = false := by rw [beq_eq_false_iff_ne]; omega
                        go_wp2_with fail
                        refine (copyS_any v11 (r.map prT) _ HS11.out (by rw [List.length_map]; omega)).mono ?_
                        rintro e w10 ⟨v13, rfl, hown13, hb10⟩
                        have hs13 := Sl.own hown13 (by rw [List.length_map]; exact hr0l)
                        obtain ⟨g13, off13, cap13, hv13, _⟩ := id hs13
                        rw [List.length_map] at hv13
                        subst hv13
                        have HS13 : Hid (Sl w10 (.slice (some ⟨g13, off13, none⟩) r.length cap13) (r.map prT)) := hs13
                        have hw10 := hwq.trans (hb10.mono hwq.size)
                        have HB11 : Hid (Below wr.heap.size wr w10) := hb10
                        clear hown13 hs13 hb10
                        go_wp2_with fail
                        refine (copyS_any v12 (st2.map prT) _ (HTAKE.out _ HB11.out) (by rw [List.length_map]; omega)).mono ?_
                        rintro e w11 ⟨v14, rfl, hown14, hb11⟩
                        have HS14 : Hid (Sl w11 (.slice (some ⟨g13, off13, none⟩) r.length cap13) (r.map prT)) := HS13.out.below hb11
                        have hw11 := hw10.trans (hb11.mono hw10.size)
                        have hsz11 := hw11.size
                        have hsz14 := hb11.size
                        clear hb11 HB11
                        go_wp2_with (at_builtin; refine wpList_append_own _ rfl _ _ 27 rfl w10.heap.size 9 i0 (.string ⟨#[]⟩) 1 16 Tryd.underlying27 hi hz0 hz1 hz2 rfl (by decide) v14 (st2.map prT).length (strsV (st2.map prT)) rfl hown14 ⟨g13, off13, none⟩ r.length cap13 (strsV (r.map prT)) rfl (by rw [strsV_len, List.length_map]) HS14.out.cells (strsV_one _) ?c3 ?c4 ?c5 ?_)
                        case c3 => rw [List.length_map]; unfold maxLen; omega
                        case c4 => rw [List.length_map]; omega
                        case c5 => exact hsz14
                        · intro v15 w12 hown15 hgrow _
                          have hB : Below w.heap.size w w12 := hw11.grown hgrow (by omega) (fun b' hb' => by have := (hown14.lt b' hb').1; have := hw10.size; omega)
                          have hS15 : Sl w12 v15 ((st2 ++ r).map prT) := by
                            refine Sl.own (B := w10.heap.size) (e := 9) ?_ (by simp; omega)
                            have e1 : strsV ((st2 ++ r).map prT) = strsV (st2.map prT) ++ strsV (r.map prT) := by simp [strsV]
                            have e2 : ((st2 ++ r).map prT).length = (st2.map prT).length + r.length := by simp
                            rw [e1, e2, List.length_map, hl3]; exact hown15
                          clear hown15 hgrow hown14
                          go_wp2_with fail
                          go_roundg (sizeS r)
                          case measure => rw [HGK.out, sizeS_cons]; omega
                          case rel =>
                            refine ⟨st2, r, rfl, by rw [hl3], hS15, ?_, ?_, ?_, hB⟩
                            · rw [HST2.out r (by rw [if_neg hr0])]; exact HRE.out
                            · intro y hy
                              rcases List.mem_append.1 hy with hy | hy
                              · exact HOK.out y (List.mem_append_left _ (hst3 y hy))
                              · exact HOK.out y (by simp [hy])
                            · have := HLL.out; rw [List.length_append, List.length_cons] at this; rw [List.length_append]; omega
                    · by_cases hx2 : x = dot2
                      · have hq1 : (b.toList == [46]) = false := by
                          rw [hbl, beq_eq_false_iff_ne]
                          exact fun h => hx1 (hd1.1 h)
                        have hq2 : (b.toList == [46, 46]) = true := by rw [hbl]; simpa using hd2.2 hx2
                        have HX1 : Hid (x ≠ dot1) := hx1
                        have HX2 : Hid (x = dot2) := hx2
                        clear hd1 hd2 hbl hx1 hx2
                        by_cases hs0' : st.length = 0
                        · have hp0 : ¬ (0 : Int) < (st.length : Int) := by omega
                          have HS00 : Hid (st.length = 0) := hs0'
                          clear hs0'
                          obtain ⟨st2, hst2⟩ : ∃ st2, st2 = st := ⟨_, rfl⟩
                          have hl3 : st2.length = st.length := by rw [hst2]
                          have hst3 : ∀ y ∈ st2, y ∈ st := by rw [hst2]; exact fun y h => h
                          have HST2 : Hid (∀ r2 : List Step, (if r = [] then r2 = [[]] else r2 = r) → remS st2 r2 = remS st (x :: r)) := by
                            intro r2 h2
                            by_cases hr0 : r = []
                            · rw [if_pos hr0] at h2
                              subst h2; subst hr0
                              rw [remS_last, remS_last, if_neg nodots_nil.1, if_neg nodots_nil.2, if_neg HX1.out, if_pos HX2.out, show st.dropLast = st by rw [List.eq_nil_of_length_eq_zero HS00.out]; rfl, hst2]
                            · rw [if_neg hr0] at h2
                              subst h2
                              rw [remS_more _ _ _ hr0, if_neg HX1.out, if_pos HX2.out, show st.dropLast = st by rw [List.eq_nil_of_length_eq_zero HS00.out]; rfl, hst2]
                          have hpre : ((st ++ x :: r).map prT).take st2.length = st2.map prT := by
                            rw [hl3, ← List.map_take, hst2]
                            congr 1
                            rw [List.take_left' rfl]
                          have hdr : ((st ++ x :: r).map prT).drop (st.length + 1) = r.map prT := by
                            rw [← List.map_drop]
                            congr 1
                            rw [show st ++ x :: r = (st ++ [x]) ++ r by simp]
                            exact List.drop_left' (by simp)
                          obtain ⟨v11, hr11, hs11⟩ := HSLN.out.drop (st.length + 1) (by simp)
                          obtain ⟨v12, hr12, _⟩ := HSLN.out.take st2.length (by rw [hl3, List.length_map, List.length_append]; omega)
                          have HTAKE : Hid (∀ W : World, Below wr.heap.size wr W → Sl W v12 (st2.map prT)) := by
                            intro W hW
                            obtain ⟨v13, hr13, hs13⟩ := (HSLN.out.below hW).take st2.length (by rw [hl3, List.length_map, List.length_append]; omega)
                            have := (hr12 W).symm.trans (hr13 W)
                            injection this with this
                            rw [this, ← hpre]; exact hs13
                          rw [hdr] at hs11
                          have hr11' : ∀ W, (Instr.slice 27 (.slice (some ⟨g9, off9, none⟩) n cap9) (some (.int .i64 ((st.length : Int) + 1))) none none).run Tryd.prog W = .ok v11 W := fun W => by have := hr11 W; simpa using this
                          have hr12' : ∀ W, (Instr.slice 27 (.slice (some ⟨g9, off9, none⟩) n cap9) none (some (.int .i64 ((st.length : Int)))) none).run Tryd.prog W = .ok v12 W := fun W => by have := hr12 W; rw [hl3] at this; exact this
                          have HS11 : Hid (Sl wr v11 (r.map prT)) := hs11
                          have hl2r : r.length ≤ 200 := by have := HLL.out; rw [List.length_append, List.length_cons] at this; omega
                          have hl2s : st2.length ≤ 200 := by omega
                          clear hr11 hr12 hs11 hpre hdr hst2
                          by_cases hr0 : r = []
                          · have hr0l : r.length = 0 := by rw [hr0]; rfl
                            go_wp2_with fail
                            refine (copyS_any v11 (r.map prT) _ HS11.out (by rw [List.length_map]; omega)).mono ?_
                            rintro e w10 ⟨v13, rfl, hown13, hb10⟩
                            obtain ⟨ad13, cap13, rfl, _⟩ := own_form2 hown13
                            have hlz : (r.map prT).length = 0 := by rw [List.length_map]; exact hr0l
                            rw [hlz]
                            have hw10 := hwq.trans (hb10.mono hwq.size)
                            have HB11 : Hid (Below wr.heap.size wr (w10.alloc (.cells #[.string ⟨#[]⟩] 9))) := hb10.alloc hb10.size _
                            clear hown13 hlz
                            go_wp2_with fail
                            refine (copyS_any v12 (st2.map prT) _ (HTAKE.out _ HB11.out) (by rw [List.length_map]; omega)).mono ?_
                            rintro e w11 ⟨v14, rfl, hown14, hb11⟩
                            have hblk : w11.heap[w10.heap.size]? = some (.cells #[.string ⟨#[]⟩] 9 (0, 0)) := (hb11.block _ (by simp)).trans (heap_alloc_new _ _)
                            have hw11 := hw10.trans ((below_new hb11).mono hw10.size)
                            have hsz11 := hw11.size
                            have hsz14 := hb11.size
                            clear hb10 hb11 HB11
                            go_wp2_with (at_builtin; refine wpList_append_own _ rfl _ _ 27 rfl (w10.alloc (.cells #[.string ⟨#[]⟩] 9)).heap.size 9 i0 (.string ⟨#[]⟩) 1 16 Tryd.underlying27 hi hz0 hz1 hz2 rfl (by decide) v14 (st2.map prT).length (strsV (st2.map prT)) rfl hown14 ⟨w10.heap.size, 0, none⟩ 1 1 [.string ⟨#[]⟩] rfl rfl (World.news_of_block (cs := #[.string ⟨#[]⟩]) (t := 9) (fr := (0, 0)) hblk) ?c2 ?c3 ?c4 ?c5 ?_)
                            case c2 => intro z hz; simp at hz; subst hz; rfl
                            case c3 => rw [List.length_map]; unfold maxLen; omega
                            case c4 => rw [List.length_map]; omega
                            case c5 => exact hsz14
                            · intro v15 w12 hown15 hgrow _
                              have hB : Below w.heap.size w w12 := hw11.grown hgrow (by omega) (fun b' hb' => by have := (hown14.lt b' hb').1; simp at this; have := hw10.size; omega)
                              have hS15 : Sl w12 v15 ((st2 ++ [[]]).map prT) := by
                                refine Sl.own (B := w10.heap.size + 1) (e := 9) ?_ (by simp)
                                have e1 : strsV ((st2 ++ [[]]).map prT) = strsV (st2.map prT) ++ [.string ⟨#[]⟩] := by simp [strsV, prT]
                                have e2 : ((st2 ++ [[]]).map prT).length = (st2.map prT).length + 1 := by simp
                                rw [e1, e2, List.length_map, hl3]; exact hown15
                              clear hown15 hgrow hown14
                              go_wp2_with fail
                              go_roundg (sizeS [[]])
                              case measure => rw [HGK.out, sizeS_cons]; rw [HX2.out]; simp [sizeS, dot2]; omega
                              case rel =>
                                refine ⟨st2, [[]], rfl, by rw [hl3], hS15, ?_, ?_, ?_, hB⟩
                                · rw [HST2.out [[]] (by rw [if_pos hr0])]; exact HRE.out
                                · intro y hy
                                  rcases List.mem_append.1 hy with hy | hy
                                  · exact HOK.out y (List.mem_append_left _ (hst3 y hy))
                                  · obtain rfl := List.mem_singleton.1 hy
                                    intro t ht; cases ht
                                · have := HLL.out; rw [List.length_append, List.length_cons] at this ⊢; simp only [List.length_nil]; omega
                          · have hr0l : 0 < r.length := List.length_pos_iff.2 hr0
                            have hr0i : ((r.length : Int) == 0) = false := by rw [beq_eq_false_iff_ne]; omega
                            go_wp2_with fail
                            refine (copyS_any v11 (r.map prT) _ HS11.out (by rw [List.length_map]; omega)).mono ?_
                            rintro e w10 ⟨v13, rfl, hown13, hb10⟩
                            have hs13 := Sl.own hown13 (by rw [List.length_map]; exact hr0l)
                            obtain ⟨g13, off13, cap13, hv13, _⟩ := id hs13
                            rw [List.length_map] at hv13
                            subst hv13
                            have HS13 : Hid (Sl w10 (.slice (some ⟨g13, off13, none⟩) r.length cap13) (r.map prT)) := hs13
                            have hw10 := hwq.trans (hb10.mono hwq.size)
                            have HB11 : Hid (Below wr.heap.size wr w10) := hb10
                            clear hown13 hs13 hb10
                            go_wp2_with fail
                            refine (copyS_any v12 (st2.map prT) _ (HTAKE.out _ HB11.out) (by rw [List.length_map]; omega)).mono ?_
                            rintro e w11 ⟨v14, rfl, hown14, hb11⟩
                            have HS14 : Hid (Sl w11 (.slice (some ⟨g13, off13, none⟩) r.length cap13) (r.map prT)) := HS13.out.below hb11
                            have hw11 := hw10.trans (hb11.mono hw10.size)
                            have hsz11 := hw11.size
                            have hsz14 := hb11.size
                            clear hb11 HB11
                            go_wp2_with (at_builtin; refine wpList_append_own _ rfl _ _ 27 rfl w10.heap.size 9 i0 (.string ⟨#[]⟩) 1 16 Tryd.underlying27 hi hz0 hz1 hz2 rfl (by decide) v14 (st2.map prT).length (strsV (st2.map prT)) rfl hown14 ⟨g13, off13, none⟩ r.length cap13 (strsV (r.map prT)) rfl (by rw [strsV_len, List.length_map]) HS14.out.cells (strsV_one _) ?c3 ?c4 ?c5 ?_)
                            case c3 => rw [List.length_map]; unfold maxLen; omega
                            case c4 => rw [List.length_map]; omega
                            case c5 => exact hsz14
                            · intro v15 w12 hown15 hgrow _
                              have hB : Below w.heap.size w w12 := hw11.grown hgrow (by omega) (fun b' hb' => by have := (hown14.lt b' hb').1; have := hw10.size; omega)
                              have hS15 : Sl w12 v15 ((st2 ++ r).map prT) := by
                                refine Sl.own (B := w10.heap.size) (e := 9) ?_ (by simp; omega)
                                have e1 : strsV ((st2 ++ r).map prT) = strsV (st2.map prT) ++ strsV (r.map prT) := by simp [strsV]
                                have e2 : ((st2 ++ r).map prT).length = (st2.map prT).length + r.length := by simp
                                rw [e1, e2, List.length_map, hl3]; exact hown15
                              clear hown15 hgrow hown14
                              go_wp2_with fail
                              go_roundg (sizeS r)
                              case measure => rw [HGK.out, sizeS_cons]; omega
                              case rel =>
                                refine ⟨st2, r, rfl, by rw [hl3], hS15, ?_, ?_, ?_, hB⟩
                                · rw [HST2.out r (by rw [if_neg hr0])]; exact HRE.out
                                · intro y hy
                                  rcases List.mem_append.1 hy with hy | hy
                                  · exact HOK.out y (List.mem_append_left _ (hst3 y hy))
                                  · exact HOK.out y (by simp [hy])
                                · have := HLL.out; rw [List.length_append, List.length_cons] at this; rw [List.length_append]; omega
                        · have hp0 : (0 : Int) < (st.length : Int) := by omega
                          have HI9 : Hid (((st.length - 1 : Nat) : Int) = (st.length : Int) - 1) := by show _ = _; omega
                          obtain ⟨st2, hst2⟩ : ∃ st2, st2 = st.dropLast := ⟨_, rfl⟩
                          have hl3 : st2.length = st.length - 1 := by rw [hst2]; exact List.length_dropLast
                          have hst3 : ∀ y ∈ st2, y ∈ st := by rw [hst2]; exact fun y h => List.dropLast_subset _ h
                          have HST2 : Hid (∀ r2 : List Step, (if r = [] then r2 = [[]] else r2 = r) → remS st2 r2 = remS st (x :: r)) := by
                            intro r2 h2
                            by_cases hr0 : r = []
                            · rw [if_pos hr0] at h2
                              subst h2; subst hr0
                              rw [remS_last, remS_last, if_neg nodots_nil.1, if_neg nodots_nil.2, if_neg HX1.out, if_pos HX2.out, hst2]
                            · rw [if_neg hr0] at h2
                              subst h2
                              rw [remS_more _ _ _ hr0, if_neg HX1.out, if_pos HX2.out, hst2]
                          have hpre : ((st ++ x :: r).map prT).take st2.length = st2.map prT := by
                            rw [hl3, ← List.map_take, hst2]
                            congr 1
                            rw [List.dropLast_eq_take, List.take_append_of_le_length (by omega)]
                          have hdr : ((st ++ x :: r).map prT).drop (st.length + 1) = r.map prT := by
                            rw [← List.map_drop]
                            congr 1
                            rw [show st ++ x :: r = (st ++ [x]) ++ r by simp]
                            exact List.drop_left' (by simp)
                          obtain ⟨v11, hr11, hs11⟩ := HSLN.out.drop (st.length + 1) (by simp)
                          obtain ⟨v12, hr12, _⟩ := HSLN.out.take st2.length (by rw [hl3, List.length_map, List.length_append]; omega)
                          have HTAKE : Hid (∀ W : World, Below wr.heap.size wr W → Sl W v12 (st2.map prT)) := by
                            intro W hW
                            obtain ⟨v13, hr13, hs13⟩ := (HSLN.out.below hW).take st2.length (by rw [hl3, List.length_map, List.length_append]; omega)
                            have := (hr12 W).symm.trans (hr13 W)
                            injection this with this
                            rw [this, ← hpre]; exact hs13
                          rw [hdr] at hs11
                          have hr11' : ∀ W, (Instr.slice 27 (.slice (some ⟨g9, off9, none⟩) n cap9) (some (.int .i64 ((st.length : Int) + 1))) none none).run Tryd.prog W = .ok v11 W := fun W => by have := hr11 W; simpa using this
                          have hr12' : ∀ W, (Instr.slice 27 (.slice (some ⟨g9, off9, none⟩) n cap9) none (some (.int .i64 ((st.length : Int) - 1))) none).run Tryd.prog W = .ok v12 W := fun W => by have := hr12 W; rw [hl3] at this; rw [show ((st.length - 1 : Nat) : Int) = (st.length : Int) - 1 by omega] at this; exact this
                          have HS11 : Hid (Sl wr v11 (r.map prT)) := hs11
                          have hl2r : r.length ≤ 200 := by have := HLL.out; rw [List.length_append, List.length_cons] at this; omega
                          have hl2s : st2.length ≤ 200 := by omega
                          clear hr11 hr12 hs11 hpre hdr hst2
                          by_cases hr0 : r = []
                          · have hr0l : r.length = 0 := by rw [hr0]; rfl
                            go_wp2_with fail
                            refine (copyS_any v11 (r.map prT) _ HS11.out (by rw [List.length_map]; omega)).mono ?_
                            rintro e w10 ⟨v13, rfl, hown13, hb10⟩
                            obtain ⟨ad13, cap13, rfl, _⟩ := own_form2 hown13
                            have hlz : (r.map prT).length = 0 := by rw [List.length_map]; exact hr0l
                            rw [hlz]
                            have hw10 := hwq.trans (hb10.mono hwq.size)
                            have HB11 : Hid (Below wr.heap.size wr (w10.alloc (.cells #[.string ⟨#[]⟩] 9))) := hb10.alloc hb10.size _
                            clear hown13 hlz
                            go_wp2_with fail
                            refine (copyS_any v12 (st2.map prT) _ (HTAKE.out _ HB11.out) (by rw [List.length_map]; omega)).mono ?_
                            rintro e w11 ⟨v14, rfl, hown14, hb11⟩
                            have hblk : w11.heap[w10.heap.size]? = some (.cells #[.string ⟨#[]⟩] 9 (0, 0)) := (hb11.block _ (by simp)).trans (heap_alloc_new _ _)
                            have hw11 := hw10.trans ((below_new hb11).mono hw10.size)
                            have hsz11 := hw11.size
                            have hsz14 := hb11.size
                            clear hb10 hb11 HB11
                            go_wp2_with (at_builtin; refine wpList_append_own _ rfl _ _ 27 rfl (w10.alloc (.cells #[.string ⟨#[]⟩] 9)).heap.size 9 i0 (.string ⟨#[]⟩) 1 16 Tryd.underlying27 hi hz0 hz1 hz2 rfl (by decide) v14 (st2.map prT).length (strsV (st2.map prT)) rfl hown14 ⟨w10.heap.size, 0, none⟩ 1 1 [.string ⟨#[]⟩] rfl rfl (World.news_of_block (cs := #[.string ⟨#[]⟩]) (t := 9) (fr := (0, 0)) hblk) ?c2 ?c3 ?c4 ?c5 ?_)
                            case c2 => intro z hz; simp at hz; subst hz; rfl
                            case c3 => rw [List.length_map]; unfold maxLen; omega
                            case c4 => rw [List.length_map]; omega
                            case c5 => exact hsz14
                            · intro v15 w12 hown15 hgrow _
                              have hB : Below w.heap.size w w12 := hw11.grown hgrow (by omega) (fun b' hb' => by have := (hown14.lt b' hb').1; simp at this; have := hw10.size; omega)
                              have hS15 : Sl w12 v15 ((st2 ++ [[]]).map prT) := by
                                refine Sl.own (B := w10.heap.size + 1) (e := 9) ?_ (by simp)
                                have e1 : strsV ((st2 ++ [[]]).map prT) = strsV (st2.map prT) ++ [.string ⟨#[]⟩] := by simp [strsV, prT]
                                have e2 : ((st2 ++ [[]]).map prT).length = (st2.map prT).length + 1 := by simp
                                rw [e1, e2, List.length_map, hl3]; exact hown15
                              clear hown15 hgrow hown14
                              go_wp2_with fail
                              go_roundg (sizeS [[]])
                              case measure => rw [HGK.out, sizeS_cons]; rw [HX2.out]; simp [sizeS, dot2]; omega
                              case rel =>
                                refine ⟨st2, [[]], rfl, by rw [hl3, HI9.out], hS15, ?_, ?_, ?_, hB⟩
                                · rw [HST2.out [[]] (by rw [if_pos hr0])]; exact HRE.out
                                · intro y hy
                                  rcases List.mem_append.1 hy with hy | hy
                                  · exact HOK.out y (List.mem_append_left _ (hst3 y hy))
                                  · obtain rfl := List.mem_singleton.1 hy
                                    intro t ht; cases ht
                                · have := HLL.out; rw [List.length_append, List.length_cons] at this ⊢; simp only [List.length_nil]; omega
                          · have hr0l : 0 < r.length := List.length_pos_iff.2 hr0
                            have hr0i : ((r.length : Int) == 0) = false := by rw [beq_eq_false_iff_ne]; omega
                            go_wp2_with fail
                            refine (copyS_any v11 (r.map prT) _ HS11.out (by rw [List.length_map]; omega)).mono ?_
                            rintro e w10 ⟨v13, rfl, hown13, hb10⟩
                            have hs13 := Sl.own hown13 (by rw [List.length_map]; exact hr0l)
                            obtain ⟨g13, off13, cap13, hv13, _⟩ := id hs13
                            rw [List.length_map] at hv13
                            subst hv13
                            have HS13 : Hid (Sl w10 (.slice (some ⟨g13, off13, none⟩) r.length cap13) (r.map prT)) := hs13
                            have hw10 := hwq.trans (hb10.mono hwq.size)
                            have HB11 : Hid (Below wr.heap.size wr w10) := hb10
                            clear hown13 hs13 hb10
                            go_wp2_with fail
                            refine (copyS_any v12 (st2.map prT) _ (HTAKE.out _ HB11.out) (by rw [List.length_map]; omega)).mono ?_
                            rintro e w11 ⟨v14, rfl, hown14, hb11⟩
                            have HS14 : Hid (Sl w11 (.slice (some ⟨g13, off13, none⟩) r.length cap13) (r.map prT)) := HS13.out.below hb11
                            have hw11 := hw10.trans (hb11.mono hw10.size)
                            have hsz11 := hw11.size
                            have hsz14 := hb11.size
                            clear hb11 HB11
                            go_wp2_with (at_builtin; refine wpList_append_own _ rfl _ _ 27 rfl w10.heap.size 9 i0 (.string ⟨#[]⟩) 1 16 Tryd.underlying27 hi hz0 hz1 hz2 rfl (by decide) v14 (st2.map prT).length (strsV (st2.map prT)) rfl hown14 ⟨g13, off13, none⟩ r.length cap13 (strsV (r.map prT)) rfl (by rw [strsV_len, List.length_map]) HS14.out.cells (strsV_one _) ?c3 ?c4 ?c5 ?_)
                            case c3 => rw [List.length_map]; unfold maxLen; omega
                            case c4 => rw [List.length_map]; omega
                            case c5 => exact hsz14
                            · intro v15 w12 hown15 hgrow _
                              have hB : Below w.heap.size w w12 := hw11.grown hgrow (by omega) (fun b' hb' => by have := (hown14.lt b' hb').1; have := hw10.size; omega)
                              have hS15 : Sl w12 v15 ((st2 ++ r).map prT) := by
                                refine Sl.own (B := w10.heap.size) (e := 9) ?_ (by simp; omega)
                                have e1 : strsV ((st2 ++ r).map prT) = strsV (st2.map prT) ++ strsV (r.map prT) := by simp [strsV]
                                have e2 : ((st2 ++ r).map prT).length = (st2.map prT).length + r.length := by simp
                                rw [e1, e2, List.length_map, hl3]; exact hown15
                              clear hown15 hgrow hown14
                              go_wp2_with fail
                              go_roundg (sizeS r)
                              case measure => rw [HGK.out, sizeS_cons]; omega
                              case rel =>
                                refine ⟨st2, r, rfl, by rw [hl3, HI9.out], hS15, ?_, ?_, ?_, hB⟩
                                · rw [HST2.out r (by rw [if_neg hr0])]; exact HRE.out
                                · intro y hy
                                  rcases List.mem_append.1 hy with hy | hy
                                  · exact HOK.out y (List.mem_append_left _ (hst3 y hy))
                                  · exact HOK.out y (by simp [hy])
                                · have := HLL.out; rw [List.length_append, List.length_cons] at this; rw [List.length_append]; omega
                      · have hq1 : (b.toList == [46]) = false := by
                          rw [hbl, beq_eq_false_iff_ne]
                          exact fun h => hx1 (hd1.1 h)
                        have hq2 : (b.toList == [46, 46]) = false := by
                          rw [hbl, beq_eq_false_iff_ne]
                          exact fun h => hx2 (hd2.1 h)
                        have HX1 : Hid (x ≠ dot1) := hx1
                        have HX2 : Hid (x ≠ dot2) := hx2
                        clear hd1 hd2 hbl hx1 hx2
                        go_wp2_with fail
                        go_roundg (sizeS r)
                        case measure => rw [HGK.out, sizeS_cons]; omega
                        case rel =>
                          have e : (st ++ [x]) ++ r = st ++ x :: r := by simp
                          refine ⟨st ++ [x], r, rfl, by rw [List.length_append]; rfl, by rw [e]; exact HSLN.out, ?_, by rw [e]; exact HOK.out, by rw [e]; exact HLL.out, hwq⟩
                          rw [← HRE.out]
                          by_cases hr0 : r = []
                          · subst hr0; rw [remS_last, if_neg HX1.out, if_neg HX2.out]; rfl
                          · rw [remS_more _ _ _ hr0, if_neg HX1.out, if_neg HX2.out]
              · have hK : Lib.index o.data.toList (⟨#[63]⟩ : ByteArray).data.toList = ((prT (pathT cs)).length : Int) := by
                  rw [hoe, hpq, hr, prT_cons]
                  exact index_byte_at 63 _ _ hno
                rw [hK]
                have hKl : (prT (pathT cs)).length ≤ o.size := by
                  rw [← size_list, hoe, hpq, List.length_append]; omega
                obtain ⟨K, hKK⟩ : ∃ K, K = (prT (pathT cs)).length := ⟨_, rfl⟩
                rw [← hKK] at hKl ⊢
                obtain ⟨p, hp, hps1, hsp⟩ := slice_to o K hKl
                obtain ⟨u, hu, hus1, hsu⟩ := slice_from o K hKl
                have HP : Hid (p.data.toList = prT (pathT cs)) := by show _ = _; rw [hp, hoe, hpq, hKK]; exact List.take_left' rfl
                have HQ : Hid (u.data.toList = prT (restT cs)) := by show _ = _; rw [hu, hoe, hpq, hKK]; exact List.drop_left' rfl
                have hps : p.size ≤ 200 := by omega
                have hus : u.size ≤ 200 := by omega
                have hK0 : (0 : Int) ≤ (K : Int) := by omega
                have HU2 : Hid (u = u) := rfl
                clear hK hr hpq hno hoe hp hu hKK
                go_wp2_with fail
                go_quiet (fail)
                obtain ⟨w5, hw5⟩ : ∃ w5, w5 = w4.drewN nq := ⟨_, rfl⟩
                have hb5 := drewN_below w4.heap.size w4 nq
                rw [← hw5] at hb5 ⊢
                have hw6 := hw.trans (hb5.mono hw.size)
                have HMq : Hid (w5.cell? ⟨0, 0, none⟩ = some (.int .i64 m)) := cell_keep hw6 HM.out
                clear hw5 hb5 hw hwr hsp hsu
                go_wp2_with fail
                refine (rsplit_at p (S.map prT) (by rw [HPJ.out]; exact HP.out) HSN.out m _ HMq.out (by omega)).mono ?_
                rintro e w7 ⟨v7, rfl, hs7, hb7⟩
                have hw7 := hw6.trans (hb7.mono hw6.size)
                obtain ⟨v8, hr8, hs8⟩ := hs7.drop 1 (by simp)
                have hr8' : ∀ W, (Instr.slice 27 v7 (some (.int .i64 1)) none none).run Tryd.prog W = .ok v8 W := fun W => by simpa using hr8 W
                have HS8 : Hid (Sl w7 v8 (S.map prT)) := by show Sl _ _ _; simpa using hs8
                clear hr8 hs8 hs7 hb7
                go_wp2_with fail
                clear hr8'
                go_loopg [12, 13] (sizeS S) (fun gk sv iv wq => ∃ (st td : List Step), gk = sizeS td ∧ iv = .int .i64 st.length ∧ Sl wq sv ((st ++ td).map prT) ∧ remS st td = remS [] S ∧ (∀ x ∈ st ++ td, TkOk x) ∧ (st ++ td).length ≤ 200 ∧ Below w.heap.size w wq)
                case atStart => exact ⟨[], S, rfl, rfl, HS8.out, rfl, HST.out, HSL.out, hw7⟩
                case round =>
                  obtain ⟨st, td, hgk, rfl, hsl, hrem, hokk, hll, hwq⟩ := hrel
                  have HRE : Hid (remS st td = remS [] S) := hrem
                  have HOK : Hid (∀ x ∈ st ++ td, TkOk x) := hokk
                  have HGK : Hid (gk = sizeS td) := hgk
                  clear hrem hokk hgk
                  cases td with
                  | nil =>
                    have hst : remS [] S = st := by rw [← HRE.out, remS]
                    have HLL : Hid (t.data.toList = prT (joinS st) ++ prT (restT cs)) := by show _ = _; rw [HL.out, hst]
                    have hst0 : st ≠ [] := by rw [← hst]; exact remS_ne S [] HS0.out
                    rw [List.append_nil] at hsl hll
                    obtain ⟨jl, hjl⟩ := ba_ofl (Lib.join (st.map prT) [47])
                    have htt : t.data.toList = 47 :: (jl.data.toList ++ u.data.toList) := by
                      rw [HLL.out, hjl, HQ.out]
                      obtain ⟨x, xs, rfl⟩ := List.exists_cons_of_ne_nil hst0
                      rw [← join_words]; rfl
                    have htsz := congrArg List.length htt
                    rw [List.length_cons, List.length_append, size_list, size_list, size_list] at htsz
                    have HTT : Hid (⟨#[47]⟩ ++ jl ++ u = t) := by
                      show _ = _
                      apply ByteArray.ext; apply Array.ext'
                      rw [ByteArray.data_append, Array.toList_append, ByteArray.data_append, Array.toList_append, htt]; rfl
                    have HJL : Hid ((⟨(Lib.join (st.map prT) [47]).toArray⟩ : ByteArray) = jl) := by
                      show _ = _
                      apply ByteArray.ext; apply Array.ext'; exact hjl.symm
                    have hjs : jl.size ≤ 200 := by have := HTZ.out; omega
                    have hjn : (Lib.join (st.map prT) [47]).length ≤ 140737488355328 := by rw [← hjl, size_list]; omega
                    have HJN : Hid ((Lib.join (st.map prT) [47]).length ≤ 140737488355328) := hjn
                    have HSL2 : Hid (Sl wr _ (st.map prT)) := hsl
                    obtain ⟨g9, off9, cap9, rfl, _⟩ := id hsl
                    obtain ⟨n9, hn9⟩ : ∃ n9, n9 = (st.map prT).length := ⟨_, rfl⟩
                    have hn9' : n9 = st.length := by rw [hn9, List.length_map]
                    rw [← hn9, ← hn9'] 
                    have HSL3 : Hid (Sl wr (.slice (some ⟨g9, off9, none⟩) n9 cap9) (st.map prT)) := by rw [hn9]; exact HSL2.out
                    clear HSL2 hsl htt htsz hjl hst hst0 hjn hn9 hn9'
                    go_wp2_with fail
                    refine (rjoin_at _ (st.map prT) _ HSL3.out HJN.out (by rw [List.length_map]; omega)).mono ?_
                    rintro e w10 ⟨rfl, hb10⟩
                    rw [HJL.out]
                    have hw10 := hwq.trans (hb10.mono hwq.size)
                    have hadd1 : ¬ 9223372036854775807 < 1 + jl.size := by omega
                    have hadd2 : ¬ 9223372036854775807 < (⟨#[47]⟩ ++ jl : ByteArray).size + u.size := by rw [ByteArray.size_append]; show ¬ _ < 1 + jl.size + u.size; omega
                    clear hb10 hwq
                    go_wp2_with fail
                    go_ret2
                    refine ⟨ret_sn ?_ rfl, hw10⟩
                    first | exact HTT.out | (rw [HU2.out]; exact HTT.out)
                  | cons x r =>
                    obtain ⟨n, hn⟩ : ∃ n, n = ((st ++ x :: r).map prT).length := ⟨_, rfl⟩
                    have hn1 : n = st.length + (r.length + 1) := by rw [hn]; simp
                    have HSLN : Hid (Sl wr _ ((st ++ x :: r).map prT)) := hsl
                    obtain ⟨g9, off9, cap9, hv9, hnc9, hcm9, hg9, hc9⟩ := hsl
                    rw [← hn] at hv9 hnc9
                    subst hv9
                    have hck := hc9 st.length (by rw [← hn]; omega)
                    obtain ⟨b, hb⟩ := ba_ofl (prT x)
                    have hbe : (⟨(((st ++ x :: r).map prT)[st.length]'(by rw [← hn]; omega)).toArray⟩ : ByteArray) = b := by
                      apply ByteArray.ext; apply Array.ext'
                      rw [hb]
                      simp
                    rw [hbe] at hck
                    unfold maxLen at hcm9
                    have hx : TkOk x := HOK.out x (by simp)
                    obtain ⟨hd1, hd2⟩ := dot_bytes x hx
                    rw [← hb] at hd1 hd2
                    have hbl : b.toList = b.data.toList := ByteArray.toList_eq b
                    have hl2 : st.length ≤ 200 := by rw [List.length_append] at hll; omega
                    have hi1 : (st.length : Int) < (n : Int) := by omega
                    have hi0 : (0 : Int) ≤ (st.length : Int) := by omega
                    have HN1 : Hid (n = st.length + (r.length + 1)) := hn1
                    have HLL : Hid ((st ++ x :: r).length ≤ 200) := hll
                    clear hn hc9 hbe hb hx hll hn1
                    by_cases hx1 : x = dot1
                    · have hq1 : (b.toList == [46]) = true := by rw [hbl]; simpa using hd1.2 hx1
                      have hq2 : (b.toList == [46, 46]) = false := by
                        rw [hbl, beq_eq_false_iff_ne]
                        intro h
                        have := hd2.1 h
                        rw [hx1] at this; exact absurd this (by decide)
                      have HX1 : Hid (x = dot1) := hx1
                      clear hd1 hd2 hbl hx1
                      obtain ⟨st2, hst2⟩ : ∃ st2, st2 = st := ⟨_, rfl⟩
                      have hl3 : st2.length = st.length := by rw [hst2]
                      have hst3 : ∀ y ∈ st2, y ∈ st := by rw [hst2]; exact fun y h => h
                      have HST2 : Hid (∀ r2 : List Step, (if r = [] then r2 = [[]] else r2 = r) → remS st2 r2 = remS st (x :: r)) := by
                        intro r2 h2
                        by_cases hr0 : r = []
                        · rw [if_pos hr0] at h2
                          subst h2; subst hr0
                          rw [remS_last, remS_last, if_neg nodots_nil.1, if_neg nodots_nil.2, if_pos HX1.out, hst2]
                        · rw [if_neg hr0] at h2
                          subst h2
                          rw [remS_more _ _ _ hr0, if_pos HX1.out, hst2]
                      have hpre : ((st ++ x :: r).map prT).take st2.length = st2.map prT := by
                        rw [hl3, ← List.map_take, hst2]
                        congr 1
                        rw [List.take_left' rfl]
                      have hdr : ((st ++ x :: r).map prT).drop (st.length + 1) = r.map prT := by
                        rw [← List.map_drop]
                        congr 1
                        rw [show st ++ x :: r = (st ++ [x]) ++ r by simp]
                        exact List.drop_left' (by simp)
                      obtain ⟨v11, hr11, hs11⟩ := HSLN.out.drop (st.length + 1) (by simp)
                      obtain ⟨v12, hr12, _⟩ := HSLN.out.take st2.length (by rw [hl3, List.length_map, List.length_append]; omega)
                      have HTAKE : Hid (∀ W : World, Below wr.heap.size wr W → Sl W v12 (st2.map prT)) := by
                        intro W hW
                        obtain ⟨v13, hr13, hs13⟩ := (HSLN.out.below hW).take st2.length (by rw [hl3, List.length_map, List.length_append]; omega)
                        have := (hr12 W).symm.trans (hr13 W)
                        injection this with this
                        rw [this, ← hpre]; exact hs13
                      rw [hdr] at hs11
                      have hr11' : ∀ W, (Instr.slice 27 (.slice (some ⟨g9, off9, none⟩) n cap9) (some (.int .i64 ((st.length : Int) + 1))) none none).run Tryd.prog W = .ok v11 W := fun W => by have := hr11 W; simpa using this
                      have hr12' : ∀ W, (Instr.slice 27 (.slice (some ⟨g9, off9, none⟩) n cap9) none (some (.int .i64 ((st.length : Int)))) none).run Tryd.prog W = .ok v12 W := fun W => by have := hr12 W; rw [hl3] at this; exact this
                      have HS11 : Hid (Sl wr v11 (r.map prT)) := hs11
                      have hl2r : r.length ≤ 200 := by have := HLL.out; rw [List.length_append, List.length_cons] at this; omega
                      have hl2s : st2.length ≤ 200 := by omega
                      clear hr11 hr12 hs11 hpre hdr hst2
                      by_cases hr0 : r = []
                      · have hr0l : r.length = 0 := by rw [hr0]; rfl
                        go_wp2_with fail
                        refine (copyS_any v11 (r.map prT) _ HS11.out (by rw [List.length_map]; omega)).mono ?_
                        rintro e w10 ⟨v13, rfl, hown13, hb10⟩
                        obtain ⟨ad13, cap13, rfl, _⟩ := own_form2 hown13
                        have hlz : (r.map prT).length = 0 := by rw [List.length_map]; exact hr0l
                        rw [hlz]
                        have hw10 := hwq.trans (hb10.mono hwq.size)
                        have HB11 : Hid (Below wr.heap.size wr (w10.alloc (.cells #[.string ⟨#[]⟩] 9))) := hb10.alloc hb10.size _
                        clear hown13 hlz
                        go_wp2_with fail
                        refine (copyS_any v12 (st2.map prT) _ (HTAKE.out _ HB11.out) (by rw [List.length_map]; omega)).mono ?_
                        rintro e w11 ⟨v14, rfl, hown14, hb11⟩
                        have hblk : w11.heap[w10.heap.size]? = some (.cells #[.string ⟨#[]⟩] 9 (0, 0)) := (hb11.block _ (by simp)).trans (heap_alloc_new _ _)
                        have hw11 := hw10.trans ((below_new hb11).mono hw10.size)
                        have hsz11 := hw11.size
                        have hsz14 := hb11.size
                        clear hb10 hb11 HB11
                        go_wp2_with (at_builtin; refine wpList_append_own _ rfl _ _ 27 rfl (w10.alloc (.cells #[.string ⟨#[]⟩] 9)).heap.size 9 i0 (.string ⟨#[]⟩) 1 16 Tryd.underlying27 hi hz0 hz1 hz2 rfl (by decide) v14 (st2.map prT).length (strsV (st2.map prT)) rfl hown14 ⟨w10.heap.size, 0, none⟩ 1 1 [.string ⟨#[]⟩] rfl rfl (World.news_of_block (cs := #[.string ⟨#[]⟩]) (t := 9) (fr := (0, 0)) hblk) ?c2 ?c3 ?c4 ?c5 ?_)
                        case c2 => intro z hz; simp at hz; subst hz; rfl
                        case c3 => rw [List.length_map]; unfold maxLen; omega
                        case c4 => rw [List.length_map]; omega
                        case c5 => exact hsz14
                        · intro v15 w12 hown15 hgrow _
                          have hB : Below w.heap.size w w12 := hw11.grown hgrow (by omega) (fun b' hb' => by have := (hown14.lt b' hb').1; simp at this; have := hw10.size; omega)
                          have hS15 : Sl w12 v15 ((st2 ++ [[]]).map prT) := by
                            refine Sl.own (B := w10.heap.size + 1) (e := 9) ?_ (by simp)
                            have e1 : strsV ((st2 ++ [[]]).map prT) = strsV (st2.map prT) ++ [.string ⟨#[]⟩] := by simp [strsV, prT]
                            have e2 : ((st2 ++ [[]]).map prT).length = (st2.map prT).length + 1 := by simp
                            rw [e1, e2, List.length_map, hl3]; exact hown15
                          clear hown15 hgrow hown14
                          go_wp2_with fail
                          go_roundg (sizeS [[]])
                          case measure => rw [HGK.out, sizeS_cons]; rw [HX1.out]; simp [sizeS, dot1]; omega
                          case rel =>
                            refine ⟨st2, [[]], rfl, by rw [hl3], hS15, ?_, ?_, ?_, hB⟩
                            · rw [HST2.out [[]] (by rw [if_pos hr0])]; exact HRE.out
                            · intro y hy
                              rcases List.mem_append.1 hy with hy | hy
                              · exact HOK.out y (List.mem_append_left _ (hst3 y hy))
                              · obtain rfl := List.mem_singleton.1 hy
                                intro t ht; cases ht
                            · have := HLL.out; rw [List.length_append, List.length_cons] at this ⊢; simp only [List.length_nil]; omega
                      · have hr0l : 0 < r.length := List.length_pos_iff.2 hr0
                        have hr0i : ((r.length : Int) == 0) = false := by rw [beq_eq_false_iff_ne]; omega
                        go_wp2_with fail
                        refine (copyS_any v11 (r.map prT) _ HS11.out (by rw [List.length_map]; omega)).mono ?_
                        rintro e w10 ⟨v13, rfl, hown13, hb10⟩
                        have hs13 := Sl.own hown13 (by rw [List.length_map]; exact hr0l)
                        obtain ⟨g13, off13, cap13, hv13, _⟩ := id hs13
                        rw [List.length_map] at hv13
                        subst hv13
                        have HS13 : Hid (Sl w10 (.slice (some ⟨g13, off13, none⟩) r.length cap13) (r.map prT)) := hs13
                        have hw10 := hwq.trans (hb10.mono hwq.size)
                        have HB11 : Hid (Below wr.heap.size wr w10) := hb10
                        clear hown13 hs13 hb10
                        go_wp2_with fail
                        refine (copyS_any v12 (st2.map prT) _ (HTAKE.out _ HB11.out) (by rw [List.length_map]; omega)).mono ?_
                        rintro e w11 ⟨v14, rfl, hown14, hb11⟩
                        have HS14 : Hid (Sl w11 (.slice (some ⟨g13, off13, none⟩) r.length cap13) (r.map prT)) := HS13.out.below hb11
                        have hw11 := hw10.trans (hb11.mono hw10.size)
                        have hsz11 := hw11.size
                        have hsz14 := hb11.size
                        clear hb11 HB11
                        go_wp2_with (at_builtin; refine wpList_append_own _ rfl _ _ 27 rfl w10.heap.size 9 i0 (.string ⟨#[]⟩) 1 16 Tryd.underlying27 hi hz0 hz1 hz2 rfl (by decide) v14 (st2.map prT).length (strsV (st2.map prT)) rfl hown14 ⟨g13, off13, none⟩ r.length cap13 (strsV (r.map prT)) rfl (by rw [strsV_len, List.length_map]) HS14.out.cells (strsV_one _) ?c3 ?c4 ?c5 ?_)
                        case c3 => rw [List.length_map]; unfold maxLen; omega
                        case c4 => rw [List.length_map]; omega
                        case c5 => exact hsz14
                        · intro v15 w12 hown15 hgrow _
                          have hB : Below w.heap.size w w12 := hw11.grown hgrow (by omega) (fun b' hb' => by have := (hown14.lt b' hb').1; have := hw10.size; omega)
                          have hS15 : Sl w12 v15 ((st2 ++ r).map prT) := by
                            refine Sl.own (B := w10.heap.size) (e := 9) ?_ (by simp; omega)
                            have e1 : strsV ((st2 ++ r).map prT) = strsV (st2.map prT) ++ strsV (r.map prT) := by simp [strsV]
                            have e2 : ((st2 ++ r).map prT).length = (st2.map prT).length + r.length := by simp
                            rw [e1, e2, List.length_map, hl3]; exact hown15
                          clear hown15 hgrow hown14
                          go_wp2_with fail
                          go_roundg (sizeS r)
                          case measure => rw [HGK.out, sizeS_cons]; omega
                          case rel =>
                            refine ⟨st2, r, rfl, by rw [hl3], hS15, ?_, ?_, ?_, hB⟩
                            · rw [HST2.out r (by rw [if_neg hr0])]; exact HRE.out
                            · intro y hy
                              rcases List.mem_append.1 hy with hy | hy
                              · exact HOK.out y (List.mem_append_left _ (hst3 y hy))
                              · exact HOK.out y (by simp [hy])
                            · have := HLL.out; rw [List.length_append, List.length_cons] at this; rw [List.length_append]; omega
                    · by_cases hx2 : x = dot2
                      · have hq1 : (b.toList == [46]) = false := by
                          rw [hbl, beq_eq_false_iff_ne]
                          exact fun h => hx1 (hd1.1 h)
                        have hq2 : (b.toList == [46, 46]) = true := by rw [hbl]; simpa using hd2.2 hx2
                        have HX1 : Hid (x ≠ dot1) := hx1
                        have HX2 : Hid (x = dot2) := hx2
                        clear hd1 hd2 hbl hx1 hx2
                        by_cases hs0' : st.length = 0
                        · have hp0 : ¬ (0 : Int) < (st.length : Int) := by omega
                          have HS00 : Hid (st.length = 0) := hs0'
                          clear hs0'
                          obtain ⟨st2, hst2⟩ : ∃ st2, st2 = st := ⟨_, rfl⟩
                          have hl3 : st2.length = st.length := by rw [hst2]
                          have hst3 : ∀ y ∈ st2, y ∈ st := by rw [hst2]; exact fun y h => h
                          have HST2 : Hid (∀ r2 : List Step, (if r = [] then r2 = [[]] else r2 = r) → remS st2 r2 = remS st (x :: r)) := by
                            intro r2 h2
                            by_cases hr0 : r = []
                            · rw [if_pos hr0] at h2
                              subst h2; subst hr0
                              rw [remS_last, remS_last, if_neg nodots_nil.1, if_neg nodots_nil.2, if_neg HX1.out, if_pos HX2.out, show st.dropLast = st by rw [List.eq_nil_of_length_eq_zero HS00.out]; rfl, hst2]
                            · rw [if_neg hr0] at h2
                              subst h2
                              rw [remS_more _ _ _ hr0, if_neg HX1.out, if_pos HX2.out, show st.dropLast = st by rw [List.eq_nil_of_length_eq_zero HS00.out]; rfl, hst2]
                          have hpre : ((st ++ x :: r).map prT).take st2.length = st2.map prT := by
                            rw [hl3, ← List.map_take, hst2]
                            congr 1
                            rw [List.take_left' rfl]
                          have hdr : ((st ++ x :: r).map prT).drop (st.length + 1) = r.map prT := by
                            rw [← List.map_drop]
                            congr 1
                            rw [show st ++ x :: r = (st ++ [x]) ++ r by simp]
                            exact List.drop_left' (by simp)
                          obtain ⟨v11, hr11, hs11⟩ := HSLN.out.drop (st.length + 1) (by simp)
                          obtain ⟨v12, hr12, _⟩ := HSLN.out.take st2.length (by rw [hl3, List.length_map, List.length_append]; omega)
                          have HTAKE : Hid (∀ W : World, Below wr.heap.size wr W → Sl W v12 (st2.map prT)) := by
                            intro W hW
                            obtain ⟨v13, hr13, hs13⟩ := (HSLN.out.below hW).take st2.length (by rw [hl3, List.length_map, List.length_append]; omega)
                            have := (hr12 W).symm.trans (hr13 W)
                            injection this with this
                            rw [this, ← hpre]; exact hs13
                          rw [hdr] at hs11
                          have hr11' : ∀ W, (Instr.slice 27 (.slice (some ⟨g9, off9, none⟩) n cap9) (some (.int .i64 ((st.length : Int) + 1))) none none).run Tryd.prog W = .ok v11 W := fun W => by have := hr11 W; simpa using this
                          have hr12' : ∀ W, (Instr.slice 27 (.slice (some ⟨g9, off9, none⟩) n cap9) none (some (.int .i64 ((st.length : Int)))) none).run Tryd.prog W = .ok v12 W := fun W => by have := hr12 W; rw [hl3] at this; exact this
                          have HS11 : Hid (Sl wr v11 (r.map prT)) := hs11
                          have hl2r : r.length ≤ 200 := by have := HLL.out; rw [List.length_append, List.length_cons] at this; omega
                          have hl2s : st2.length ≤ 200 := by omega
                          clear hr11 hr12 hs11 hpre hdr hst2
                          by_cases hr0 : r = []
                          · have hr0l : r.length = 0 := by rw [hr0]; rfl
                            go_wp2_with fail
                            refine (copyS_any v11 (r.map prT) _ HS11.out (by rw [List.length_map]; omega)).mono ?_
                            rintro e w10 ⟨v13, rfl, hown13, hb10⟩
                            obtain ⟨ad13, cap13, rfl, _⟩ := own_form2 hown13
                            have hlz : (r.map prT).length = 0 := by rw [List.length_map]; exact hr0l
                            rw [hlz]
                            have hw10 := hwq.trans (hb10.mono hwq.size)
                            have HB11 : Hid (Below wr.heap.size wr (w10.alloc (.cells #[.string ⟨#[]⟩] 9))) := hb10.alloc hb10.size _
                            clear hown13 hlz
                            go_wp2_with fail
                            refine (copyS_any v12 (st2.map prT) _ (HTAKE.out _ HB11.out) (by rw [List.length_map]; omega)).mono ?_
                            rintro e w11 ⟨v14, rfl, hown14, hb11⟩
                            have hblk : w11.heap[w10.heap.size]? = some (.cells #[.string ⟨#[]⟩] 9 (0, 0)) := (hb11.block _ (by simp)).trans (heap_alloc_new _ _)
                            have hw11 := hw10.trans ((below_new hb11).mono hw10.size)
                            have hsz11 := hw11.size
                            have hsz14 := hb11.size
                            clear hb10 hb11 HB11
                            go_wp2_with (at_builtin; refine wpList_append_own _ rfl _ _ 27 rfl (w10.alloc (.cells #[.string ⟨#[]⟩] 9)).heap.size 9 i0 (.string ⟨#[]⟩) 1 16 Tryd.underlying27 hi hz0 hz1 hz2 rfl (by decide) v14 (st2.map prT).length (strsV (st2.map prT)) rfl hown14 ⟨w10.heap.size, 0, none⟩ 1 1 [.string ⟨#[]⟩] rfl rfl (World.news_of_block (cs := #[.string ⟨#[]⟩]) (t := 9) (fr := (0, 0)) hblk) ?c2 ?c3 ?c4 ?c5 ?_)
                            case c2 => intro z hz; simp at hz; subst hz; rfl
                            case c3 => rw [List.length_map]; unfold maxLen; omega
                            case c4 => rw [List.length_map]; omega
                            case c5 => exact hsz14
                            · intro v15 w12 hown15 hgrow _
                              have hB : Below w.heap.size w w12 := hw11.grown hgrow (by omega) (fun b' hb' => by have := (hown14.lt b' hb').1; simp at this; have := hw10.size; omega)
                              have hS15 : Sl w12 v15 ((st2 ++ [[]]).map prT) := by
                                refine Sl.own (B := w10.heap.size + 1) (e := 9) ?_ (by simp)
                                have e1 : strsV ((st2 ++ [[]]).map prT) = strsV (st2.map prT) ++ [.string ⟨#[]⟩] := by simp [strsV, prT]
                                have e2 : ((st2 ++ [[]]).map prT).length = (st2.map prT).length + 1 := by simp
                                rw [e1, e2, List.length_map, hl3]; exact hown15
                              clear hown15 hgrow hown14
                              go_wp2_with fail
                              go_roundg (sizeS [[]])
                              case measure => rw [HGK.out, sizeS_cons]; rw [HX2.out]; simp [sizeS, dot2]; omega
                              case rel =>
                                refine ⟨st2, [[]], rfl, by rw [hl3], hS15, ?_, ?_, ?_, hB⟩
                                · rw [HST2.out [[]] (by rw [if_pos hr0])]; exact HRE.out
                                · intro y hy
                                  rcases List.mem_append.1 hy with hy | hy
                                  · exact HOK.out y (List.mem_append_left _ (hst3 y hy))
                                  · obtain rfl := List.mem_singleton.1 hy
                                    intro t ht; cases ht
                                · have := HLL.out; rw [List.length_append, List.length_cons] at this ⊢; simp only [List.length_nil]; omega
                          · have hr0l : 0 < r.length := List.length_pos_iff.2 hr0
                            have hr0i : ((r.length : Int) == 0) = false := by rw [beq_eq_false_iff_ne]; omega
                            go_wp2_with fail
                            refine (copyS_any v11 (r.map prT) _ HS11.out (by rw [List.length_map]; omega)).mono ?_
                            rintro e w10 ⟨v13, rfl, hown13, hb10⟩
                            have hs13 := Sl.own hown13 (by rw [List.length_map]; exact hr0l)
                            obtain ⟨g13, off13, cap13, hv13, _⟩ := id hs13
                            rw [List.length_map] at hv13
                            subst hv13
                            have HS13 : Hid (Sl w10 (.slice (some ⟨g13, off13, none⟩) r.length cap13) (r.map prT)) := hs13
                            have hw10 := hwq.trans (hb10.mono hwq.size)
                            have HB11 : Hid (Below wr.heap.size wr w10) := hb10
                            clear hown13 hs13 hb10
                            go_wp2_with fail
                            refine (copyS_any v12 (st2.map prT) _ (HTAKE.out _ HB11.out) (by rw [List.length_map]; omega)).mono ?_
                            rintro e w11 ⟨v14, rfl, hown14, hb11⟩
                            have HS14 : Hid (Sl w11 (.slice (some ⟨g13, off13, none⟩) r.length cap13) (r.map prT)) := HS13.out.below hb11
                            have hw11 := hw10.trans (hb11.mono hw10.size)
                            have hsz11 := hw11.size
                            have hsz14 := hb11.size
                            clear hb11 HB11
                            go_wp2_with (at_builtin; refine wpList_append_own _ rfl _ _ 27 rfl w10.heap.size 9 i0 (.string ⟨#[]⟩) 1 16 Tryd.underlying27 hi hz0 hz1 hz2 rfl (by decide) v14 (st2.map prT).length (strsV (st2.map prT)) rfl hown14 ⟨g13, off13, none⟩ r.length cap13 (strsV (r.map prT)) rfl (by rw [strsV_len, List.length_map]) HS14.out.cells (strsV_one _) ?c3 ?c4 ?c5 ?_)
                            case c3 => rw [List.length_map]; unfold maxLen; omega
                            case c4 => rw [List.length_map]; omega
                            case c5 => exact hsz14
                            · intro v15 w12 hown15 hgrow _
                              have hB : Below w.heap.size w w12 := hw11.grown hgrow (by omega) (fun b' hb' => by have := (hown14.lt b' hb').1; have := hw10.size; omega)
                              have hS15 : Sl w12 v15 ((st2 ++ r).map prT) := by
                                refine Sl.own (B := w10.heap.size) (e := 9) ?_ (by simp; omega)
                                have e1 : strsV ((st2 ++ r).map prT) = strsV (st2.map prT) ++ strsV (r.map prT) := by simp [strsV]
                                have e2 : ((st2 ++ r).map prT).length = (st2.map prT).length + r.length := by simp
                                rw [e1, e2, List.length_map, hl3]; exact hown15
                              clear hown15 hgrow hown14
                              go_wp2_with fail
                              go_roundg (sizeS r)
                              case measure => rw [HGK.out, sizeS_cons]; omega
                              case rel =>
                                refine ⟨st2, r, rfl, by rw [hl3], hS15, ?_, ?_, ?_, hB⟩
                                · rw [HST2.out r (by rw [if_neg hr0])]; exact HRE.out
                                · intro y hy
                                  rcases List.mem_append.1 hy with hy | hy
                                  · exact HOK.out y (List.mem_append_left _ (hst3 y hy))
                                  · exact HOK.out y (by simp [hy])
                                · have := HLL.out; rw [List.length_append, List.length_cons] at this; rw [List.length_append]; omega
                        · have hp0 : (0 : Int) < (st.length : Int) := by omega
                          have HI9 : Hid (((st.length - 1 : Nat) : Int) = (st.length : Int) - 1) := by show _ = _; omega
                          obtain ⟨st2, hst2⟩ : ∃ st2, st2 = st.dropLast := ⟨_, rfl⟩
                          have hl3 : st2.length = st.length - 1 := by rw [hst2]; exact List.length_dropLast
                          have hst3 : ∀ y ∈ st2, y ∈ st := by rw [hst2]; exact fun y h => List.dropLast_subset _ h
                          have HST2 : Hid (∀ r2 : List Step, (if r = [] then r2 = [[]] else r2 = r) → remS st2 r2 = remS st (x :: r)) := by
                            intro r2 h2
                            by_cases hr0 : r = []
                            · rw [if_pos hr0] at h2
                              subst h2; subst hr0
                              rw [remS_last, remS_last, if_neg nodots_nil.1, if_neg nodots_nil.2, if_neg HX1.out, if_pos HX2.out, hst2]
                            · rw [if_neg hr0] at h2
                              subst h2
                              rw [remS_more _ _ _ hr0, if_neg HX1.out, if_pos HX2.out, hst2]
                          have hpre : ((st ++ x :: r).map prT).take st2.length = st2.map prT := by
                            rw [hl3, ← List.map_take, hst2]
                            congr 1
                            rw [List.dropLast_eq_take, List.take_append_of_le_length (by omega)]
                          have hdr : ((st ++ x :: r).map prT).drop (st.length + 1) = r.map prT := by
                            rw [← List.map_drop]
                            congr 1
                            rw [show st ++ x :: r = (st ++ [x]) ++ r by simp]
                            exact List.drop_left' (by simp)
                          obtain ⟨v11, hr11, hs11⟩ := HSLN.out.drop (st.length + 1) (by simp)
                          obtain ⟨v12, hr12, _⟩ := HSLN.out.take st2.length (by rw [hl3, List.length_map, List.length_append]; omega)
                          have HTAKE : Hid (∀ W : World, Below wr.heap.size wr W → Sl W v12 (st2.map prT)) := by
                            intro W hW
                            obtain ⟨v13, hr13, hs13⟩ := (HSLN.out.below hW).take st2.length (by rw [hl3, List.length_map, List.length_append]; omega)
                            have := (hr12 W).symm.trans (hr13 W)
                            injection this with this
                            rw [this, ← hpre]; exact hs13
                          rw [hdr] at hs11
                          have hr11' : ∀ W, (Instr.slice 27 (.slice (some ⟨g9, off9, none⟩) n cap9) (some (.int .i64 ((st.length : Int) + 1))) none none).run Tryd.prog W = .ok v11 W := fun W => by have := hr11 W; simpa using this
                          have hr12' : ∀ W, (Instr.slice 27 (.slice (some ⟨g9, off9, none⟩) n cap9) none (some (.int .i64 ((st.length : Int) - 1))) none).run Tryd.prog W = .ok v12 W := fun W => by have := hr12 W; rw [hl3] at this; rw [show ((st.length - 1 : Nat) : Int) = (st.length : Int) - 1 by omega] at this; exact this
                          have HS11 : Hid (Sl wr v11 (r.map prT)) := hs11
                          have hl2r : r.length ≤ 200 := by have := HLL.out; rw [List.length_append, List.length_cons] at this; omega
                          have hl2s : st2.length ≤ 200 := by omega
                          clear hr11 hr12 hs11 hpre hdr hst2
                          by_cases hr0 : r = []
                          · have hr0l : r.length = 0 := by rw [hr0]; rfl
                            go_wp2_with fail
                            refine (copyS_any v11 (r.map prT) _ HS11.out (by rw [List.length_map]; omega)).mono ?_
                            rintro e w10 ⟨v13, rfl, hown13, hb10⟩
                            obtain ⟨ad13, cap13, rfl, _⟩ := own_form2 hown13
                            have hlz : (r.map prT).length = 0 := by rw [List.length_map]; exact hr0l
                            rw [hlz]
                            have hw10 := hwq.trans (hb10.mono hwq.size)
                            have HB11 : Hid (Below wr.heap.size wr (w10.alloc (.cells #[.string ⟨#[]⟩] 9))) := hb10.alloc hb10.size _
                            clear hown13 hlz
                            go_wp2_with fail
                            refine (copyS_any v12 (st2.map prT) _ (HTAKE.out _ HB11.out) (by rw [List.length_map]; omega)).mono ?_
                            rintro e w11 ⟨v14, rfl, hown14, hb11⟩
                            have hblk : w11.heap[w10.heap.size]? = some (.cells #[.string ⟨#[]⟩] 9 (0, 0)) := (hb11.block _ (by simp)).trans (heap_alloc_new _ _)
                            have hw11 := hw10.trans ((below_new hb11).mono hw10.size)
                            have hsz11 := hw11.size
                            have hsz14 := hb11.size
                            clear hb10 hb11 HB11
                            go_wp2_with (at_builtin; refine wpList_append_own _ rfl _ _ 27 rfl (w10.alloc (.cells #[.string ⟨#[]⟩] 9)).heap.size 9 i0 (.string ⟨#[]⟩) 1 16 Tryd.underlying27 hi hz0 hz1 hz2 rfl (by decide) v14 (st2.map prT).length (strsV (st2.map prT)) rfl hown14 ⟨w10.heap.size, 0, none⟩ 1 1 [.string ⟨#[]⟩] rfl rfl (World.news_of_block (cs := #[.string ⟨#[]⟩]) (t := 9) (fr := (0, 0)) hblk) ?c2 ?c3 ?c4 ?c5 ?_)
                            case c2 => intro z hz; simp at hz; subst hz; rfl
                            case c3 => rw [List.length_map]; unfold maxLen; omega
                            case c4 => rw [List.length_map]; omega
                            case c5 => exact hsz14
                            · intro v15 w12 hown15 hgrow _
                              have hB : Below w.heap.size w w12 := hw11.grown hgrow (by omega) (fun b' hb' => by have := (hown14.lt b' hb').1; simp at this; have := hw10.size; omega)
                              have hS15 : Sl w12 v15 ((st2 ++ [[]]).map prT) := by
                                refine Sl.own (B := w10.heap.size + 1) (e := 9) ?_ (by simp)
                                have e1 : strsV ((st2 ++ [[]]).map prT) = strsV (st2.map prT) ++ [.string ⟨#[]⟩] := by simp [strsV, prT]
                                have e2 : ((st2 ++ [[]]).map prT).length = (st2.map prT).length + 1 := by simp
                                rw [e1, e2, List.length_map, hl3]; exact hown15
                              clear hown15 hgrow hown14
                              go_wp2_with fail
                              go_roundg (sizeS [[]])
                              case measure => rw [HGK.out, sizeS_cons]; rw [HX2.out]; simp [sizeS, dot2]; omega
                              case rel =>
                                refine ⟨st2, [[]], rfl, by rw [hl3, HI9.out], hS15, ?_, ?_, ?_, hB⟩
                                · rw [HST2.out [[]] (by rw [if_pos hr0])]; exact HRE.out
                                · intro y hy
                                  rcases List.mem_append.1 hy with hy | hy
                                  · exact HOK.out y (List.mem_append_left _ (hst3 y hy))
                                  · obtain rfl := List.mem_singleton.1 hy
                                    intro t ht; cases ht
                                · have := HLL.out; rw [List.length_append, List.length_cons] at this ⊢; simp only [List.length_nil]; omega
                          · have hr0l : 0 < r.length := List.length_pos_iff.2 hr0
                            have hr0i : ((r.length : Int) == 0) = false := by rw [beq_eq_false_iff_ne]; omega
                            go_wp2_with fail
                            refine (copyS_any v11 (r.map prT) _ HS11.out (by rw [List.length_map]; omega)).mono ?_
                            rintro e w10 ⟨v13, rfl, hown13, hb10⟩
                            have hs13 := Sl.own hown13 (by rw [List.length_map]; exact hr0l)
                            obtain ⟨g13, off13, cap13, hv13, _⟩ := id hs13
                            rw [List.length_map] at hv13
                            subst hv13
                            have HS13 : Hid (Sl w10 (.slice (some ⟨g13, off13, none⟩) r.length cap13) (r.map prT)) := hs13
                            have hw10 := hwq.trans (hb10.mono hwq.size)
                            have HB11 : Hid (Below wr.heap.size wr w10) := hb10
                            clear hown13 hs13 hb10
                            go_wp2_with fail
                            refine (copyS_any v12 (st2.map prT) _ (HTAKE.out _ HB11.out) (by rw [List.length_map]; omega)).mono ?_
                            rintro e w11 ⟨v14, rfl, hown14, hb11⟩
                            have HS14 : Hid (Sl w11 (.slice (some ⟨g13, off13, none⟩) r.length cap13) (r.map prT)) := HS13.out.below hb11
                            have hw11 := hw10.trans (hb11.mono hw10.size)
                            have hsz11 := hw11.size
                            have hsz14 := hb11.size
                            clear hb11 HB11
                            go_wp2_with (at_builtin; refine wpList_append_own _ rfl _ _ 27 rfl w10.heap.size 9 i0 (.string ⟨#[]⟩) 1 16 Tryd.underlying27 hi hz0 hz1 hz2 rfl (by decide) v14 (st2.map prT).length (strsV (st2.map prT)) rfl hown14 ⟨g13, off13, none⟩ r.length cap13 (strsV (r.map prT)) rfl (by rw [strsV_len, List.length_map]) HS14.out.cells (strsV_one _) ?c3 ?c4 ?c5 ?_)
                            case c3 => rw [List.length_map]; unfold maxLen; omega
                            case c4 => rw [List.length_map]; omega
                            case c5 => exact hsz14
                            · intro v15 w12 hown15 hgrow _
                              have hB : Below w.heap.size w w12 := hw11.grown hgrow (by omega) (fun b' hb' => by have := (hown14.lt b' hb').1; have := hw10.size; omega)
                              have hS15 : Sl w12 v15 ((st2 ++ r).map prT) := by
                                refine Sl.own (B := w10.heap.size) (e := 9) ?_ (by simp; omega)
                                have e1 : strsV ((st2 ++ r).map prT) = strsV (st2.map prT) ++ strsV (r.map prT) := by simp [strsV]
                                have e2 : ((st2 ++ r).map prT).length = (st2.map prT).length + r.length := by simp
                                rw [e1, e2, List.length_map, hl3]; exact hown15
                              clear hown15 hgrow hown14
                              go_wp2_with fail
                              go_roundg (sizeS r)
                              case measure => rw [HGK.out, sizeS_cons]; omega
                              case rel =>
                                refine ⟨st2, r, rfl, by rw [hl3, HI9.out], hS15, ?_, ?_, ?_, hB⟩
                                · rw [HST2.out r (by rw [if_neg hr0])]; exact HRE.out
                                · intro y hy
                                  rcases List.mem_append.1 hy with hy | hy
                                  · exact HOK.out y (List.mem_append_left _ (hst3 y hy))
                                  · exact HOK.out y (by simp [hy])
                                · have := HLL.out; rw [List.length_append, List.length_cons] at this; rw [List.length_append]; omega
                      · have hq1 : (b.toList == [46]) = false := by
                          rw [hbl, beq_eq_false_iff_ne]
                          exact fun h => hx1 (hd1.1 h)
                        have hq2 : (b.toList == [46, 46]) = false := by
                          rw [hbl, beq_eq_false_iff_ne]
                          exact fun h => hx2 (hd2.1 h)
                        have HX1 : Hid (x ≠ dot1) := hx1
                        have HX2 : Hid (x ≠ dot2) := hx2
                        clear hd1 hd2 hbl hx1 hx2
                        go_wp2_with fail
                        go_roundg (sizeS r)
                        case measure => rw [HGK.out, sizeS_cons]; omega
                        case rel =>
                          have e : (st ++ [x]) ++ r = st ++ x :: r := by simp
                          refine ⟨st ++ [x], r, rfl, by rw [List.length_append]; rfl, by rw [e]; exact HSLN.out, ?_, by rw [e]; exact HOK.out, by rw [e]; exact HLL.out, hwq⟩
                          rw [← HRE.out]
                          by_cases hr0 : r = []
                          · subst hr0; rw [remS_last, if_neg HX1.out, if_neg HX2.out]; rfl
                          · rw [remS_more _ _ _ hr0, if_neg HX1.out, if_neg HX2.out]
      · rw [hn, if_neg hok] at h
        obtain rfl := ba_nilr t (Prod.mk.inj h).1.symm
        obtain rfl := (Prod.mk.inj h).2
        clear hl hu h hn
        cases h1 : Lib.hasPrefix s.data.toList [47]
        · have H1 : Hid (Lib.hasPrefix s.data.toList [47] = false) := h1
          clear hok h1
          go_enter Tryd.func14, Tryd.ntmps14
          go_wp2_with fail
          refine (runesc_any s _ hs).mono ?_
          rintro e w1 ⟨hb1, he⟩
          rcases he with ⟨h, _⟩ | ⟨ts', v, _, rfl, hown⟩
          · rw [HU.out] at h; cases h
          · obtain ⟨ad, cap, rfl, _⟩ := own_form2 hown
            clear hown
            go_wp2_with fail
            refine (Tryd.strings_HasPrefix s ⟨#[47]⟩ _).mono ?_
            rintro e w2 ⟨rfl, rfl⟩
            rw [show (⟨#[47]⟩ : ByteArray).data.toList = [47] from rfl, H1.out]
            go_wp2_with fail
            go_ret2
            exact ⟨rfl, hb1⟩
        · have H1 : Hid (Lib.hasPrefix s.data.toList [47] = true) := h1
          cases h2 : allPlain s.data.toList
          · have H2 : Hid (allPlain s.data.toList = false) := h2
            clear hok h1 h2
            go_enter Tryd.func14, Tryd.ntmps14
            go_wp2_with fail
            refine (runesc_any s _ hs).mono ?_
            rintro e w1 ⟨hb1, he⟩
            rcases he with ⟨h, _⟩ | ⟨ts', v, _, rfl, hown⟩
            · rw [HU.out] at h; cases h
            · obtain ⟨ad, cap, rfl, _⟩ := own_form2 hown
              clear hown
              go_wp2_with fail
              refine (Tryd.strings_HasPrefix s ⟨#[47]⟩ _).mono ?_
              rintro e w2 ⟨rfl, rfl⟩
              rw [show (⟨#[47]⟩ : ByteArray).data.toList = [47] from rfl, H1.out]
              go_wp2_with fail
              refine (rplain_any s _ (by unfold maxLen; omega)).mono ?_
              rintro e w2 ⟨rfl, rfl⟩
              rw [H2.out]
              go_wp2_with fail
              go_ret2
              exact ⟨rfl, hb1⟩
          · have H2 : Hid (allPlain s.data.toList = true) := h2
            have h3 : Lib.containsAny s.data.toList [32, 35, 9] = true := by
              cases h3 : Lib.containsAny s.data.toList [32, 35, 9]
              · exact absurd ⟨h1, h2, h3⟩ hok
              · rfl
            have H3 : Hid (Lib.containsAny s.data.toList [32, 35, 9] = true) := h3
            clear h3
            clear hok h1 h2
            go_enter Tryd.func14, Tryd.ntmps14
            go_wp2_with fail
            refine (runesc_any s _ hs).mono ?_
            rintro e w1 ⟨hb1, he⟩
            rcases he with ⟨h, _⟩ | ⟨ts', v, _, rfl, hown⟩
            · rw [HU.out] at h; cases h
            · obtain ⟨ad, cap, rfl, _⟩ := own_form2 hown
              clear hown
              go_wp2_with fail
              refine (Tryd.strings_HasPrefix s ⟨#[47]⟩ _).mono ?_
              rintro e w2 ⟨rfl, rfl⟩
              rw [show (⟨#[47]⟩ : ByteArray).data.toList = [47] from rfl, H1.out]
              go_wp2_with fail
              refine (rplain_any s _ (by unfold maxLen; omega)).mono ?_
              rintro e w2 ⟨rfl, rfl⟩
              rw [H2.out]
              go_wp2_with fail
              refine (Tryd.strings_ContainsAny_laid s ⟨#[32, 35, 9]⟩ _ (by omega) (by decide) (plain_low _ H2.out) low3).mono ?_
              rintro e w3 ⟨rfl, hb3⟩
              rw [show (⟨#[32, 35, 9]⟩ : ByteArray).data.toList = [32, 35, 9] from rfl, H3.out]
              go_wp2_with fail
              go_ret2
              exact ⟨rfl, hb1.trans (hb3.mono hb1.size)⟩
  · have hs' : (200 : Int) < (s.size : Int) := by omega
    have hR : nrmR s.data.toList = ([], 2) := by unfold nrmR; rw [if_pos (by rw [size_list]; omega)]
    rw [hR] at h
    obtain rfl := ba_nilr t (Prod.mk.inj h).1.symm
    obtain rfl := (Prod.mk.inj h).2
    clear h hR
    go_enter Tryd.func14, Tryd.ntmps14
    go_wp2_with fail
    go_ret2
    exact ⟨rfl, Below.refl _ _⟩
end Go.Proofs.YtbmmlbphbllcoaaDoor
