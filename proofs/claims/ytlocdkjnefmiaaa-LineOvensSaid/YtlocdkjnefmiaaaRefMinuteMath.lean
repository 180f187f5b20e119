/-
  The reference's minute of an oven: its lists, and Heats.
-/
import Derived.Test.YtlocdkjnefmiaaaOvenMain
import Derived.Test.YtlocdkjnefmiaaaGKeeps
import Derived.Test.YtlocdkjnefmiaaaGRefCan
namespace Go.Proofs.Ytlocdkjnefmiaaa
open Go.RowKit
set_option linter.unusedVariables false
set_option linter.unusedSimpArgs false

set_option maxHeartbeats 1000000 in
theorem refHeats_any (o : Ov) (t : Int) (b : Bool) (w : World) : Calls Try.prog 100 #[o.val, .int .i64 t, .bool b] w (Ret w (.bool (heatsAt o (t, b)))) := by
  go_enter Try.func100, Try.ntmps100
  go_wp2
  all_goals
    go_ret
    refine ⟨ret_bool ?_, by (repeat (first | assumption | exact Below.refl _ _ | refine b_alloc ?_ _ | refine Below.drew ?_ | refine b_drewN ?_ _ | refine Below.setCell ?_ (by first | omega | (simp; done) | (simp; omega)) _ | refine b_call (by assumption) ?_))⟩
    simp_all [heatsAt]
    try (intros; first | omega | (cases b <;> simp_all <;> omega) | simp_all)

/-- The span by which an oven turns in a minute, and its sign. -/
def byAt (o : Ov) (c : Cl) : Int × Int := if heatsAt o c then o.warm else o.cool
def sgAt (o : Ov) (c : Cl) : Int := if heatsAt o c then 1 else -1
def turnN (o : Ov) (c : Cl) : Nat := ((byAt o c).2 - (byAt o c).1 + 1).toNat
/-- The climate after n degrees. -/
def turnTo (o : Ov) (c : Cl) (j : Nat) : Cl := (c.1 + sgAt o c * ((byAt o c).1 + (j : Int)), heatsAt o c)
def turnL (o : Ov) (c : Cl) (n : Nat) : List Cl := (List.range n).map (turnTo o c)
theorem turnL_succ (o : Ov) (c : Cl) (n : Nat) : turnL o c (n + 1) = turnL o c n ++ [turnTo o c n] := by simp [turnL, List.range_succ]
theorem mem_turn {o : Ov} (ho : o.Ok) {c d : Cl} : d ∈ turnL o c (turnN o c) ↔ d ∈ stepsOf o c := by
  rw [mem_steps]
  obtain ⟨-, -, hw, hc⟩ := ho
  obtain ⟨t, g⟩ := d
  unfold turnL turnTo turnN byAt sgAt lowAt highAt
  rw [List.mem_map]
  cases e : heatsAt o c
  · simp only [Bool.false_eq_true, if_false]
    constructor
    · rintro ⟨j, hj, h⟩
      have := List.mem_range.1 hj
      cases h
      exact ⟨by omega, by omega, rfl⟩
    · rintro ⟨a, b, h⟩
      exact ⟨(c.1 - t - o.cool.1).toNat, List.mem_range.2 (by omega), by rw [h]; congr 1; omega⟩
  · simp only [if_true]
    constructor
    · rintro ⟨j, hj, h⟩
      have := List.mem_range.1 hj
      cases h
      exact ⟨by omega, by omega, rfl⟩
    · rintro ⟨a, b, h⟩
      exact ⟨(t - c.1 - o.warm.1).toNat, List.mem_range.2 (by omega), by rw [h]; congr 1; omega⟩
/-- A list without what it has already. -/
def addD (m : List Cl) (c : Cl) : List Cl := if c ∈ m then m else m ++ [c]
def addsD (m cs : List Cl) : List Cl := cs.foldl addD m
theorem addsD_snoc (m cs : List Cl) (c : Cl) : addsD m (cs ++ [c]) = addD (addsD m cs) c := by simp [addsD]
theorem addsD_app (m cs ds : List Cl) : addsD m (cs ++ ds) = addsD (addsD m cs) ds := by simp [addsD]
theorem mem_addD {m : List Cl} {c d : Cl} : d ∈ addD m c ↔ d ∈ m ∨ d = c := by
  unfold addD
  split
  · rename_i h; exact ⟨.inl, fun g => g.elim id (fun g => g ▸ h)⟩
  · simp
theorem mem_addsD (cs : List Cl) : ∀ (m : List Cl) (d : Cl), d ∈ addsD m cs ↔ d ∈ m ∨ d ∈ cs := by
  induction cs with
  | nil => intro m d; simp [addsD]
  | cons c cs ih =>
    intro m d
    have e : addsD m (c :: cs) = addsD (addD m c) cs := rfl
    rw [e, ih, mem_addD, List.mem_cons, or_assoc]
/-- Each climate once, and no climate too far. -/
def Once (m : List Cl) : Prop := m.Nodup ∧ ∀ c ∈ m, Cbd c
theorem Once.nil : Once [] := ⟨by simp, by simp⟩
theorem Once.add {m : List Cl} (h : Once m) {c : Cl} (hc : Cbd c) : Once (addD m c) := by
  unfold addD
  split
  · exact h
  · rename_i e
    refine ⟨List.nodup_append.2 ⟨h.1, by simp, ?_⟩, ?_⟩
    · intro a ha b hb; simp at hb; subst hb; intro e'; subst e'; exact e ha
    · intro d hd
      rcases List.mem_append.1 hd with hd | hd
      · exact h.2 d hd
      · simp at hd; subst hd; exact hc
theorem Once.few {m : List Cl} (h : Once m) : m.length ≤ 3402 := Good.few (st := (m, m)) ⟨h.1, h.2, Nat.le_refl _, fun _ h => h⟩
/-- Where the reference marks a climate. -/
def idx (c : Cl) : Nat := ((if c.2 then 2400 else 0) + c.1 + 1200).toNat
theorem idx_lt {c : Cl} (h : Cbd c) : idx c < 4800 := by unfold idx; unfold Cbd at h; split <;> omega
theorem idx_inj {c d : Cl} (h : Cbd c) (k : Cbd d) (e : idx c = idx d) : c = d := by
  obtain ⟨t, a⟩ := c
  obtain ⟨u, b⟩ := d
  unfold Cbd at h k
  simp only at h k
  unfold idx at e
  cases a <;> cases b <;> simp only [Bool.false_eq_true, if_false, if_true] at e <;> first | (exfalso; omega) | (congr 1; omega)
/-- The marks are those of a list. -/
def Marked (bs : List Bool) (m : List Cl) : Prop := bs.length = 4800 ∧ ∀ c, Cbd c → bs[idx c]?.getD false = decide (c ∈ m)
theorem Marked.nil' (n : Nat) (h : n = 4800) : Marked (List.replicate n false) [] := ⟨by rw [List.length_replicate, h], fun c _ => by rw [List.getElem?_replicate]; split <;> simp⟩
theorem Marked.nil : Marked (List.replicate 4800 false) [] := Marked.nil' 4800 rfl
theorem Marked.old {bs : List Bool} {m : List Cl} (h : Marked bs m) {c : Cl} (hc : c ∈ m) : Marked bs (addD m c) := by rw [addD, if_pos hc]; exact h
theorem Marked.new {bs : List Bool} {m : List Cl} (h : Marked bs m) {c : Cl} (hb : Cbd c) (hc : c ∉ m) : Marked (bs.set (idx c) true) (addD m c) := by
  rw [addD, if_neg hc]
  refine ⟨by simp [h.1], fun d hd => ?_⟩
  have hi := idx_lt hb
  rw [List.getElem?_set]
  by_cases g : idx c = idx d
  · have := idx_inj hb hd g
    subst this
    simp [h.1, hi]
  · rw [if_neg g, h.2 d hd]
    have : ¬ d = c := fun e => g (by rw [e])
    simp [this]
/-- How far a minute has come. -/
def doneL (o : Ov) (l : List Cl) (i : Nat) : List Cl := addsD [] ((l.take i).flatMap fun c => turnL o c (turnN o c))
theorem doneL_zero (o : Ov) (l : List Cl) : doneL o l 0 = [] := by simp [doneL, addsD]
theorem doneL_succ (o : Ov) (l : List Cl) (i : Nat) (h : i < l.length) : doneL o l (i + 1) = addsD (doneL o l i) (turnL o l[i] (turnN o l[i])) := by
  have e : l.take (i + 1) = l.take i ++ [l[i]] := by rw [List.take_add_one, List.getElem?_eq_getElem h]; rfl
  rw [doneL, doneL, e, List.flatMap_append, addsD_app]
  simp
theorem mem_done {o : Ov} (ho : o.Ok) {l : List Cl} {d : Cl} : d ∈ doneL o l l.length ↔ ∃ c ∈ l, d ∈ stepsOf o c := by
  rw [doneL, mem_addsD, List.take_length, List.mem_flatMap]
  constructor
  · rintro (h | ⟨c, hc, h⟩)
    · simp at h
    · exact ⟨c, hc, (mem_turn ho).1 h⟩
  · rintro ⟨c, hc, h⟩
    exact .inr ⟨c, hc, (mem_turn ho).2 h⟩
end Go.Proofs.Ytlocdkjnefmiaaa
