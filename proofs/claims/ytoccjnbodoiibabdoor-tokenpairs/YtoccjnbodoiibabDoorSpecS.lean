/-
  Plain functions on lists of bytes: how a text is cut at a sign that is not within quotes; no program is named here.
-/
import Derived.Test.YtoccjnbodoiibabDoorSpecQ
import Derived.Lib.Strings
namespace Go.Proofs.YtoccjnbodoiibabDoor
open Go.RowKit

def strs (ps : List (List UInt8)) : List Value := ps.map fun p => Value.string ⟨p.toArray⟩
theorem strs_snoc (ps : List (List UInt8)) (p : List UInt8) : strs ps ++ [Value.string ⟨p.toArray⟩] = strs (ps ++ [p]) := by simp [strs]
theorem strs_length (ps : List (List UInt8)) : (strs ps).length = ps.length := by simp [strs]
theorem strs_get (ps : List (List UInt8)) (k : Nat) (h : k < ps.length) : (strs ps)[k]? = some (.string ⟨ps[k].toArray⟩) := by
  simp [strs, h]

/-- What has been cut, what is being read, whether it is within quotes, whether a stroke counts. -/
structure Cut where
  ps : List (List UInt8)
  cur : List UInt8
  q : Bool
  cn : Bool

def cstep (sep : UInt8) (x : Cut) (c : UInt8) : Cut :=
  if c = sep ∧ x.q = false then ⟨x.ps ++ [x.cur], [], x.q, x.cn⟩
  else ⟨x.ps, x.cur ++ [c], if x.cn = true then x.q else if c = 34 then !x.q else x.q, if x.cn = true then false else if c = 34 then false else if c = 92 then x.q else false⟩
def cutS (sep : UInt8) (l : List UInt8) : Cut := l.foldl (cstep sep) ⟨[], [], false, false⟩
def pieces (sep : UInt8) (l : List UInt8) : List (List UInt8) := (cutS sep l).ps ++ [(cutS sep l).cur]
def ends (sep : UInt8) (l : List UInt8) : Bool := !(cutS sep l).q

theorem cutS_snoc (sep : UInt8) (l : List UInt8) (c : UInt8) : cutS sep (l ++ [c]) = cstep sep (cutS sep l) c := by simp [cutS]

theorem cutS_len (sep : UInt8) (l : List UInt8) : (cutS sep l).ps.length ≤ l.length := by
  have gen : ∀ (l : List UInt8) (x : Cut), (l.foldl (cstep sep) x).ps.length ≤ x.ps.length + l.length := by
    intro l
    induction l with
    | nil => intro x; simp
    | cons c l ih =>
      intro x
      rw [List.foldl_cons]
      have h := ih (cstep sep x c)
      have h2 : (cstep sep x c).ps.length ≤ x.ps.length + 1 := by unfold cstep; split <;> simp
      rw [List.length_cons]
      omega
  have := gen l ⟨[], [], false, false⟩
  simpa [cutS] using this

theorem cstep_back (sep : UInt8) (ps : List (List UInt8)) (cur : List UInt8) (c : UInt8) (hc : c = 92) : cstep sep ⟨ps, cur, true, false⟩ c = ⟨ps, cur ++ [c], true, true⟩ := by
  subst hc; simp [cstep]
theorem cstep_took (sep : UInt8) (ps : List (List UInt8)) (cur : List UInt8) (c : UInt8) : cstep sep ⟨ps, cur, true, true⟩ c = ⟨ps, cur ++ [c], true, false⟩ := by
  simp [cstep]
theorem cstep_quote (sep : UInt8) (hs : sep ≠ 34) (ps : List (List UInt8)) (cur : List UInt8) (q : Bool) (c : UInt8) (hc : c = 34) : cstep sep ⟨ps, cur, q, false⟩ c = ⟨ps, cur ++ [c], !q, false⟩ := by
  subst hc
  have : ¬ ((34 : UInt8) = sep ∧ q = false) := fun h => hs h.1.symm
  simp [cstep, this]
theorem cstep_sep (sep : UInt8) (ps : List (List UInt8)) (cur : List UInt8) (c : UInt8) (hc : c = sep) : cstep sep ⟨ps, cur, false, false⟩ c = ⟨ps ++ [cur], [], false, false⟩ := by
  simp [cstep, hc]
theorem cstep_else (sep : UInt8) (ps : List (List UInt8)) (cur : List UInt8) (q : Bool) (c : UInt8) (h1 : ¬ (c = sep ∧ q = false)) (h2 : c ≠ 34) (h3 : ¬ (c = 92 ∧ q = true)) : cstep sep ⟨ps, cur, q, false⟩ c = ⟨ps, cur ++ [c], q, false⟩ := by
  unfold cstep
  rw [if_neg h1]
  cases q
  · simp [h2]
  · have : c ≠ 92 := fun e => h3 ⟨e, rfl⟩
    simp [h2, this]

theorem pieces_len (sep : UInt8) (l : List UInt8) : ∀ p ∈ pieces sep l, p.length ≤ l.length := by
  have gen : ∀ (l : List UInt8) (x : Cut) (N : Nat), (∀ p ∈ x.ps, p.length ≤ N) → x.cur.length ≤ N → (∀ p ∈ (l.foldl (cstep sep) x).ps, p.length ≤ N + l.length) ∧ (l.foldl (cstep sep) x).cur.length ≤ N + l.length := by
    intro l
    induction l with
    | nil => intro x N h1 h2; exact ⟨h1, h2⟩
    | cons c l ih =>
      intro x N h1 h2
      rw [List.foldl_cons, List.length_cons]
      have h3 : (∀ p ∈ (cstep sep x c).ps, p.length ≤ N + 1) ∧ (cstep sep x c).cur.length ≤ N + 1 := by
        unfold cstep
        split
        · refine ⟨fun p hp => ?_, by simp⟩
          simp only [List.mem_append, List.mem_singleton] at hp
          rcases hp with hp | rfl
          · have := h1 p hp; omega
          · omega
        · refine ⟨fun p hp => ?_, by simp; omega⟩
          have := h1 p hp; omega
      have := ih _ (N + 1) h3.1 h3.2
      rw [show N + (l.length + 1) = N + 1 + l.length from by omega]
      exact this
  have h := gen l ⟨[], [], false, false⟩ 0 (fun p hp => by cases hp) (Nat.le_refl _)
  intro p hp
  unfold pieces at hp
  simp only [List.mem_append, List.mem_singleton] at hp
  rw [Nat.zero_add] at h
  rcases hp with hp | rfl
  · exact h.1 p hp
  · exact h.2

theorem seg_snoc (s : ByteArray) (a k : Nat) (ha : a ≤ k) (h : k < s.size) : (s.data.toList.drop a).take (k + 1 - a) = (s.data.toList.drop a).take (k - a) ++ [s[k]] := by
  have h' : k - a < (s.data.toList.drop a).length := by rw [List.length_drop, size_list]; omega
  rw [show k + 1 - a = (k - a) + 1 from by omega, List.take_succ_eq_append_getElem h']
  congr 2
  rw [List.getElem_drop]
  have : a + (k - a) = k := by omega
  simp only [this]
  rfl
theorem extract_seg (s : ByteArray) (a k : Nat) : s.extract a k = ⟨((s.data.toList.drop a).take (k - a)).toArray⟩ := by
  apply ByteArray.ext
  apply Array.ext'
  rw [Lib.extract_data]
end Go.Proofs.YtoccjnbodoiibabDoor
