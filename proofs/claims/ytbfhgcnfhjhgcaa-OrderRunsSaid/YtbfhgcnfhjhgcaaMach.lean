/-
  The machine order by order, as plain mathematics: a step, a run, a trace.
-/
import Derived.Test.YtbfhgcnfhjhgcaaCheck
namespace Go.Proofs.Ytbfhgcnfhjhgcaa
set_option linter.unusedVariables false
set_option linter.unusedSimpArgs false

def getI (xs : List Int) (i : Int) : Int := xs[i.toNat]?.getD 0
def setI (xs : List Int) (i v : Int) : List Int := xs.set i.toNat v
theorem setI_len (xs : List Int) (i v : Int) : (setI xs i v).length = xs.length := by simp [setI]
theorem getI_mem {xs : List Int} {i : Int} (h0 : 0 ≤ i) (h1 : i < xs.length) : getI xs i ∈ xs := by
  have h : i.toNat < xs.length := by omega
  unfold getI
  rw [List.getElem?_eq_getElem h]
  exact List.getElem_mem h
theorem okAll_get {lo hi : Int} {xs : List Int} {i : Int} (h : okAll lo hi xs) (h0 : 0 ≤ i) (h1 : i < xs.length) : lo ≤ getI xs i ∧ getI xs i ≤ hi := h _ (getI_mem h0 h1)
theorem okAll_set {lo hi : Int} {xs : List Int} {i v : Int} (h : okAll lo hi xs) (hv : lo ≤ v ∧ v ≤ hi) : okAll lo hi (setI xs i v) := by
  intro x hx
  rcases List.mem_or_eq_of_mem_set hx with h1 | h1
  · exact h x h1
  · subst h1; exact hv
theorem okAll_snoc {lo hi : Int} {xs : List Int} {v : Int} (h : okAll lo hi xs) (hv : lo ≤ v ∧ v ≤ hi) : okAll lo hi (xs ++ [v]) := by
  intro x hx
  rcases List.mem_append.1 hx with h1 | h1
  · exact h x h1
  · rcases List.mem_singleton.1 h1 with rfl; exact hv
theorem getI_set {xs : List Int} {i j v : Int} (h0 : 0 ≤ i) (h1 : i < xs.length) (hj : 0 ≤ j) : getI (setI xs i v) j = if i = j then v else getI xs j := by
  unfold getI setI
  rw [List.getElem?_set]
  have h : i.toNat < xs.length := by omega
  by_cases e : i = j
  · subst e; simp [h]
  · have e2 : ¬ i.toNat = j.toNat := by omega
    simp [e, e2]

theorem fol_spec {o : Od} (ho : o.Ok) (t : Int) (neg : Bool) : Ad (folOf o t neg).1 ∧ t < (folOf o t neg).2 ∧ (folOf o t neg).2 ≤ t + 76 ∧ (folOf o t neg).2 % 16 = (folOf o t neg).1 % 16 := by
  obtain ⟨op, fr, tt, nx⟩ := o
  obtain ⟨h1, h2, h3, h4⟩ := ho
  simp only at h1 h2 h3 h4
  have a1 := aft_spec t fr h2.1
  have a2 := aft_spec t tt h3.1
  have a3 := aft_spec (aft t fr) tt h3.1
  have a4 := aft_spec (aft (aft t fr) tt + 12) tt h3.1
  have b0 := aft_spec (aft t fr) nx h4.1
  have b2 := aft_spec (aft t tt) nx h4.1
  have b3 := aft_spec (aft (aft t fr) tt) nx h4.1
  have b4 := aft_spec (aft (aft (aft t fr) tt + 12) tt) nx h4.1
  have hcs : op = 6 ∨ op = 4 ∨ (op = 5 ∧ neg = true) ∨ (op = 5 ∧ neg = false) ∨ op = 7 ∨ (¬ op = 6 ∧ ¬ op = 4 ∧ ¬ op = 5 ∧ ¬ op = 7) := by
    cases neg <;> simp <;> omega
  rcases hcs with rfl | rfl | ⟨rfl, rfl⟩ | ⟨rfl, rfl⟩ | rfl | ⟨n6, n4, n5, n7⟩
  · rw [fol6]; simp only [Ad]; omega
  · rw [fol4]; simp only [Ad]; omega
  · rw [fol5t]; simp only [Ad]; omega
  · rw [fol5f]; simp only [Ad]; omega
  · rw [fol7]; simp only [Ad]; omega
  · rw [folx _ _ _ _ _ _ n6 n4 n5 n7]; simp only [Ad]; omega

def St.od (s : St) : Od := dec (getI s.store s.at_)
def St.neg (s : St) : Bool := decide (sgn (getI s.store s.od.fr) < 0)
def St.nxt (s : St) : Int × Int := folOf s.od s.time s.neg
def St.ends (s : St) : Int := if s.why = 0 then (if s.od.op = 0 then 1 else if s.od.op = 6 ∧ s.taken = (s.tape.length : Int) then 2 else if s.od.op = 7 ∧ s.printed.length = 200 then 3 else if 1000000000 < s.nxt.2 then 4 else 0) else s.why
/-- The product of two words. -/
def prodOf (a b : Int) : Int := sgn a * sgn b / 8388608 % 16777216
def St.deed (s : St) (o : Od) : St :=
  if o.op = 1 then { s with store := setI s.store o.to (getI s.store o.fr) }
  else if o.op = 2 then { s with store := setI s.store o.to ((getI s.store o.to + getI s.store o.fr) % 16777216) }
  else if o.op = 3 then { s with store := setI s.store o.to ((getI s.store o.to - getI s.store o.fr) % 16777216) }
  else if o.op = 4 then { s with store := setI s.store o.to (prodOf (getI s.store o.to) (getI s.store o.fr)) }
  else if o.op = 6 then { s with store := setI s.store o.to (getI s.tape s.taken), taken := s.taken + 1 }
  else if o.op = 7 then { s with printed := s.printed ++ [getI s.store o.fr] }
  else s
def St.step (s : St) : St := { s.deed s.od with at_ := s.nxt.1, time := s.nxt.2, done := s.done + 1 }
def St.stop (s : St) : St := { s with why := s.ends }
def St.run : Nat → St → St
  | 0, s => s
  | n + 1, s => if s.ends = 0 then St.run n s.step else s.stop
/-- An order that is done. -/
structure Stp where
  at_ : Int
  od : Od
  time : Int
  til : Int
def St.stp (s : St) : Stp := ⟨s.at_, s.od, s.time, s.nxt.2⟩
def St.trace : Nat → St → List Stp
  | 0, _ => []
  | n + 1, s => if s.ends = 0 then s.stp :: St.trace n s.step else []
/-- A state without an error. -/
structure SOk (s : St) : Prop where
  len : lensOk s
  w0 : okAll 0 16777215 s.store
  w1 : okAll 0 16777215 s.tape
  w2 : okAll 0 16777215 s.printed
  num : numsOk s
  pl : s.time % 16 = s.at_ % 16
theorem outW_neg {xs : List Int} : outW xs < 0 ↔ okAll 0 16777215 xs := outOf_neg
theorem chk_ok {s : St} (h : SOk s) : chk s = (0, 0, 0) := by
  have a := outW_neg.2 h.w0
  have b := outW_neg.2 h.w1
  have c := outW_neg.2 h.w2
  unfold chk
  rw [if_pos h.len, if_neg (by omega), if_neg (by omega), if_neg (by omega), if_pos h.num, if_pos h.pl]
theorem ok_of_chk {s : St} (h : (chk s).2.2 = 0) : SOk s := by
  unfold chk at h
  by_cases h1 : lensOk s
  · rw [if_pos h1] at h
    by_cases a : 0 ≤ outW s.store
    · rw [if_pos a] at h; simp at h
    · rw [if_neg a] at h
      by_cases b : 0 ≤ outW s.tape
      · rw [if_pos b] at h; simp at h
      · rw [if_neg b] at h
        by_cases c : 0 ≤ outW s.printed
        · rw [if_pos c] at h; simp at h
        · rw [if_neg c] at h
          by_cases d : numsOk s
          · rw [if_pos d] at h
            by_cases e : s.time % 16 = s.at_ % 16
            · exact ⟨h1, outW_neg.1 (by omega), outW_neg.1 (by omega), outW_neg.1 (by omega), d, e⟩
            · rw [if_neg e] at h; simp at h
          · rw [if_neg d] at h; simp at h
  · rw [if_neg h1] at h; simp at h
theorem SOk.od {s : St} (h : SOk s) : s.od.Ok := by
  obtain ⟨_, _, ⟨a, b⟩, _⟩ := h.num
  have l := h.len.1
  exact dec_ok (okAll_get h.w0 a (by omega))
theorem SOk.get {s : St} (h : SOk s) {i : Int} (hi : Ad i) : Wd (getI s.store i) := by
  have l := h.len.1
  exact okAll_get h.w0 hi.1 (by have := hi.2; omega)
theorem prod_wd (a b : Int) : 0 ≤ prodOf a b ∧ prodOf a b ≤ 16777215 := by unfold prodOf; omega
theorem ends_zero {s : St} (h : s.ends = 0) : s.why = 0 ∧ s.od.op ≠ 0 ∧ ¬ (s.od.op = 6 ∧ s.taken = (s.tape.length : Int)) ∧ ¬ (s.od.op = 7 ∧ s.printed.length = 200) ∧ s.nxt.2 ≤ 1000000000 := by
  unfold St.ends at h
  by_cases a : s.why = 0
  · rw [if_pos a] at h
    by_cases b : s.od.op = 0
    · rw [if_pos b] at h; simp at h
    · rw [if_neg b] at h
      by_cases c : s.od.op = 6 ∧ s.taken = (s.tape.length : Int)
      · rw [if_pos c] at h; simp at h
      · rw [if_neg c] at h
        by_cases d : s.od.op = 7 ∧ s.printed.length = 200
        · rw [if_pos d] at h; simp at h
        · rw [if_neg d] at h
          by_cases e : 1000000000 < s.nxt.2
          · rw [if_pos e] at h; simp at h
          · exact ⟨a, b, c, d, by omega⟩
  · rw [if_neg a] at h; exact absurd h a
theorem ends_bd {s : St} (h : SOk s) : 0 ≤ s.ends ∧ s.ends ≤ 4 := by
  have hw := h.num.2.2.2.2
  unfold St.ends
  repeat' split
  all_goals omega
theorem step_ok {s : St} (h : SOk s) (he : s.ends = 0) : SOk s.step := by
  obtain ⟨e1, e2, e3, e4, e5⟩ := ends_zero he
  have ho := h.od
  obtain ⟨q1, q2, q3, q4⟩ := id ho
  obtain ⟨l1, l2, l3⟩ := id h.len
  obtain ⟨n1, n2, n3, n4, n5⟩ := id h.num
  have gf := h.get (i := s.od.fr) q2
  have gt := h.get (i := s.od.to) q3
  obtain ⟨f1, f2, f3, f4⟩ := fol_spec ho s.time s.neg
  have hx : s.nxt = folOf s.od s.time s.neg := rfl
  rw [← hx] at f1 f2 f3 f4
  have p := prod_wd (getI s.store s.od.to) (getI s.store s.od.fr)
  have key : lensOk (s.deed s.od) ∧ okAll 0 16777215 (s.deed s.od).store ∧ okAll 0 16777215 (s.deed s.od).tape ∧ okAll 0 16777215 (s.deed s.od).printed ∧ (0 ≤ (s.deed s.od).taken ∧ (s.deed s.od).taken ≤ (s.deed s.od).tape.length) ∧ (s.deed s.od).why = s.why ∧ (s.deed s.od).done = s.done := by
    unfold St.deed lensOk
    by_cases o1 : s.od.op = 1
    · simp only [o1, if_true, setI_len]; exact ⟨⟨l1, l2, l3⟩, okAll_set h.w0 gf, h.w1, h.w2, n1, trivial, trivial⟩
    rw [if_neg o1]
    by_cases o2 : s.od.op = 2
    · simp only [o2, if_true, setI_len]; exact ⟨⟨l1, l2, l3⟩, okAll_set h.w0 (by omega), h.w1, h.w2, n1, trivial, trivial⟩
    rw [if_neg o2]
    by_cases o3 : s.od.op = 3
    · simp only [o3, if_true, setI_len]; exact ⟨⟨l1, l2, l3⟩, okAll_set h.w0 (by omega), h.w1, h.w2, n1, trivial, trivial⟩
    rw [if_neg o3]
    by_cases o4 : s.od.op = 4
    · simp only [o4, if_true, setI_len]; exact ⟨⟨l1, l2, l3⟩, okAll_set h.w0 p, h.w1, h.w2, n1, trivial, trivial⟩
    rw [if_neg o4]
    by_cases o6 : s.od.op = 6
    · have hlt : s.taken < s.tape.length := by
        have : ¬ s.taken = (s.tape.length : Int) := fun e => e3 ⟨o6, e⟩
        omega
      have gk := okAll_get h.w1 n1.1 hlt
      simp only [o6, if_true, setI_len]; exact ⟨⟨l1, l2, l3⟩, okAll_set h.w0 gk, h.w1, h.w2, ⟨by omega, by omega⟩, trivial, trivial⟩
    rw [if_neg o6]
    by_cases o7 : s.od.op = 7
    · have hne : ¬ s.printed.length = 200 := fun e => e4 ⟨o7, e⟩
      simp only [o7, if_true, List.length_append, List.length_cons, List.length_nil]; exact ⟨⟨l1, l2, by omega⟩, h.w0, h.w1, okAll_snoc h.w2 gf, n1, trivial, trivial⟩
    rw [if_neg o7]
    exact ⟨⟨l1, l2, l3⟩, h.w0, h.w1, h.w2, n1, rfl, rfl⟩
  obtain ⟨k1, k2, k3, k4, k5, k6, k7⟩ := key
  refine ⟨k1, k2, k3, k4, ⟨k5, ?_, f1, ?_, ?_⟩, f4⟩
  · show Tm s.nxt.2
    have := n2.1
    unfold Tm
    omega
  · show 0 ≤ s.done + 1 ∧ s.done + 1 ≤ s.nxt.2
    omega
  · show 0 ≤ (s.deed s.od).why ∧ (s.deed s.od).why ≤ 4
    rw [k6]; exact n5
theorem stop_ok {s : St} (h : SOk s) : SOk s.stop := by
  obtain ⟨n1, n2, n3, n4, n5⟩ := id h.num
  exact ⟨h.len, h.w0, h.w1, h.w2, ⟨n1, n2, n3, n4, ends_bd h⟩, h.pl⟩
theorem run_ok : ∀ (n : Nat) {s : St}, SOk s → SOk (St.run n s)
  | 0, s, h => h
  | n + 1, s, h => by
    unfold St.run
    by_cases e : s.ends = 0
    · rw [if_pos e]; exact run_ok n (step_ok h e)
    · rw [if_neg e]; exact stop_ok h
end Go.Proofs.Ytbfhgcnfhjhgcaa
