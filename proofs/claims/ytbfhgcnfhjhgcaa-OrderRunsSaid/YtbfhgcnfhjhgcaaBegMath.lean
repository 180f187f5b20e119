/-
  The states with which runs of the laws begin, and their runs, reckoned.
-/
import Derived.Test.YtbfhgcnfhjhgcaaGRun
import Derived.Test.YtbfhgcnfhjhgcaaBegin
import Derived.ProofKit
namespace Go.Proofs.Ytbfhgcnfhjhgcaa
set_option linter.unusedVariables false
set_option linter.unusedSimpArgs false

theorem okAll_app {lo hi : Int} {xs ys : List Int} (h : okAll lo hi xs) (h' : okAll lo hi ys) : okAll lo hi (xs ++ ys) := by
  intro x hx
  rcases List.mem_append.1 hx with h1 | h1
  · exact h x h1
  · exact h' x h1
theorem begSt_ok {store tape : List Int} {start : Int} (h1 : store.length ≤ 128) (h2 : tape.length ≤ 200) (h3 : okAll 0 16777215 store) (h4 : okAll 0 16777215 tape) (h5 : Ad start) : SOk (begSt store tape start) := by
  unfold Ad at h5
  refine ⟨⟨?_, h2, ?_⟩, ?_, h4, ?_, ⟨⟨?_, ?_⟩, ?_, h5, ⟨?_, ?_⟩, ?_, ?_⟩, ?_⟩
  · show (store ++ List.replicate (128 - store.length) 0).length = 128
    simp; omega
  · show ([] : List Int).length ≤ 200
    simp
  · refine okAll_app h3 (fun x hx => ?_)
    rw [List.eq_of_mem_replicate hx]; omega
  · intro x hx; cases hx
  · show (0 : Int) ≤ 0; omega
  · show (0 : Int) ≤ (tape.length : Int); omega
  · show Tm (start % 16); unfold Tm; omega
  · show (0 : Int) ≤ 0; omega
  · show (0 : Int) ≤ start % 16; omega
  · show (0 : Int) ≤ 0; omega
  · show (0 : Int) ≤ 4; omega
  · show start % 16 % 16 = start % 16; omega
theorem begSt_len (store tape : List Int) (start : Int) (h1 : store.length ≤ 128) : (begSt store tape start).store.length = 128 := by
  show (store ++ List.replicate (128 - store.length) 0).length = 128
  simp; omega
theorem run_one {s : St} (h : s.ends = 0) (n : Nat) : St.run (n + 1) s = St.run n s.step := by rw [St.run, if_pos h]
theorem ask_of {s : St} (h : SOk s) {n : Int} (hn : 0 ≤ n ∧ n ≤ 5000) : askErr s n = 0 := by unfold askErr; rw [chk_ok h, if_pos rfl, if_pos hn]
theorem ends_of {s : St} (o : Od) (x : Int × Int) (ho : s.od = o) (hx : s.nxt = x) (hw : s.why = 0) (h0 : o.op ≠ 0) (h6 : o.op ≠ 6) (h7 : o.op ≠ 7) (ht : x.2 ≤ 1000000000) : s.ends = 0 := by
  unfold St.ends
  rw [if_pos hw, ho, if_neg h0, if_neg (fun h => h6 h.1), if_neg (fun h => h7 h.1), hx, if_neg (by omega)]

/-! ### OrderUndone -/
def uS (x y z time at_ done why : Int) : St := ⟨[4260481, 6357634, 2179843, 6357511, x, y, z, 0] ++ List.replicate 120 0, [], 0, [], time, at_, done, why⟩
theorem uS_beg (a b : Int) : begSt [4260481, 6357634, 2179843, 6357511, a, b, 0, 0] [] 0 = uS a b 0 0 0 0 0 := rfl
theorem uS_od0 (x y z t d w : Int) : (uS x y z t 0 d w).od = ⟨2, 4, 5, 1⟩ := by show dec 4260481 = _; kernel_rfl
theorem uS_od1 (x y z t d w : Int) : (uS x y z t 1 d w).od = ⟨3, 4, 5, 2⟩ := by show dec 6357634 = _; kernel_rfl
theorem uS_od2 (x y z t d w : Int) : (uS x y z t 2 d w).od = ⟨1, 5, 6, 3⟩ := by show dec 2179843 = _; kernel_rfl
theorem uS_od3 (x y z t d w : Int) : (uS x y z t 3 d w).od = ⟨3, 4, 4, 7⟩ := by show dec 6357511 = _; kernel_rfl
theorem uS_od7 (x y z t d w : Int) : (uS x y z t 7 d w).od = ⟨0, 0, 0, 0⟩ := by show dec 0 = _; kernel_rfl
theorem uS_nx0 (x y z d w : Int) : (uS x y z 0 0 d w).nxt = (1, 17) := by
  unfold St.nxt; rw [uS_od0, folx _ _ _ _ _ _ (by decide) (by decide) (by decide) (by decide)]; kernel_rfl
theorem uS_nx1 (x y z d w : Int) : (uS x y z 17 1 d w).nxt = (2, 34) := by
  unfold St.nxt; rw [uS_od1, folx _ _ _ _ _ _ (by decide) (by decide) (by decide) (by decide)]; kernel_rfl
theorem uS_nx2 (x y z d w : Int) : (uS x y z 34 2 d w).nxt = (3, 51) := by
  unfold St.nxt; rw [uS_od2, folx _ _ _ _ _ _ (by decide) (by decide) (by decide) (by decide)]; kernel_rfl
theorem uS_nx3 (x y z d w : Int) : (uS x y z 51 3 d w).nxt = (7, 71) := by
  unfold St.nxt; rw [uS_od3, folx _ _ _ _ _ _ (by decide) (by decide) (by decide) (by decide)]; kernel_rfl
theorem uS_st0 (a b : Int) : (uS a b 0 0 0 0 0).step = uS a ((b + a) % 16777216) 0 17 1 1 0 := by
  unfold St.step; rw [uS_nx0, uS_od0]; unfold St.deed; rw [if_neg (by decide), if_pos rfl]; rfl
theorem uS_st1 (a b : Int) : (uS a b 0 17 1 1 0).step = uS a ((b - a) % 16777216) 0 34 2 2 0 := by
  unfold St.step; rw [uS_nx1, uS_od1]; unfold St.deed; rw [if_neg (by decide), if_neg (by decide), if_pos rfl]; rfl
theorem uS_st2 (a b : Int) : (uS a b 0 34 2 2 0).step = uS a b b 51 3 3 0 := by
  unfold St.step; rw [uS_nx2, uS_od2]; unfold St.deed; rw [if_pos rfl]; rfl
theorem uS_st3 (a b c : Int) : (uS a b c 51 3 3 0).step = uS ((a - a) % 16777216) b c 71 7 4 0 := by
  unfold St.step; rw [uS_nx3, uS_od3]; unfold St.deed; rw [if_neg (by decide), if_neg (by decide), if_pos rfl]; rfl
theorem uS_run2 (a b : Int) (hb : Wd b) : St.run 2 (uS a b 0 0 0 0 0) = uS a b 0 34 2 2 0 := by
  unfold Wd at hb
  rw [run_one (ends_of _ _ (uS_od0 _ _ _ _ _ _) (uS_nx0 _ _ _ _ _) rfl (by decide) (by decide) (by decide) (by decide)), uS_st0,
    run_one (ends_of _ _ (uS_od1 _ _ _ _ _ _) (uS_nx1 _ _ _ _ _) rfl (by decide) (by decide) (by decide) (by decide)), uS_st1,
    show ((b + a) % 16777216 - a) % 16777216 = b by omega]
  rfl
theorem uS_run9 (a b : Int) (hb : Wd b) : St.run 9 (uS a b 0 0 0 0 0) = uS 0 b b 71 7 4 1 := by
  rw [show 9 = 2 + 7 from rfl, run_add, uS_run2 a b hb,
    run_one (ends_of _ _ (uS_od2 _ _ _ _ _ _) (uS_nx2 _ _ _ _ _) rfl (by decide) (by decide) (by decide) (by decide)), uS_st2,
    run_one (ends_of _ _ (uS_od3 _ _ _ _ _ _) (uS_nx3 _ _ _ _ _) rfl (by decide) (by decide) (by decide) (by decide)), uS_st3,
    show (a - a) % 16777216 = 0 by omega]
  have e : (uS 0 b b 71 7 4 0).ends = 1 := by unfold St.ends; rw [uS_od7]; rfl
  rw [St.run, if_neg (by rw [e]; decide)]
  unfold St.stop
  rw [e]
  rfl

/-! ### OrderKnown -/
def kA : St := ⟨[12583560, 0, 0, 0, 0, 0, 0, 0, 10569226, 0, 4278016, 0, 14909453, 0, 0] ++ List.replicate 113 0, [3], 0, [], 0, 0, 0, 0⟩
theorem kA_prn : (St.run 100 kA).printed = [] := by kernel_rfl
theorem kA_len : (St.run 100 kA).store.length = 128 := by kernel_rfl
theorem kA_tape : (St.run 100 kA).tape.length = 1 := by kernel_rfl
theorem kA_taken : (St.run 100 kA).taken = 1 := by kernel_rfl
theorem kA_time : (St.run 100 kA).time = 48 := by kernel_rfl
theorem kA_at : (St.run 100 kA).at_ = 0 := by kernel_rfl
theorem kA_done : (St.run 100 kA).done = 3 := by kernel_rfl
theorem kA_why : (St.run 100 kA).why = 2 := by kernel_rfl

/-! ### OrderProduct -/
def pS (x y time at_ done why : Int) : St := ⟨[8405251, x, y] ++ List.replicate 125 0, [], 0, [], time, at_, done, why⟩
theorem pS_beg (a b : Int) : begSt [8405251, a, b] [] 0 = pS a b 0 0 0 0 := rfl
theorem pS_od (x y t d w : Int) : (pS x y t 0 d w).od = ⟨4, 1, 2, 3⟩ := by show dec 8405251 = _; kernel_rfl
theorem pS_nx (x y d w : Int) : (pS x y 0 0 d w).nxt = (3, 19) := by
  unfold St.nxt; rw [pS_od, fol4]; kernel_rfl
theorem pS_run (a b : Int) : St.run 1 (pS a b 0 0 0 0) = pS a (prodOf b a) 19 3 1 0 := by
  rw [run_one (ends_of _ _ (pS_od _ _ _ _ _) (pS_nx _ _ _ _) rfl (by decide) (by decide) (by decide) (by decide))]
  show (pS a b 0 0 0 0).step = _
  unfold St.step; rw [pS_nx, pS_od]; unfold St.deed; rw [if_neg (by decide), if_neg (by decide), if_neg (by decide), if_pos rfl]; rfl
theorem pS_run5 (a b : Int) : St.run 5 (pS a b 0 0 0 0) = pS a (prodOf b a) 19 3 1 1 := by
  rw [show 5 = 1 + 4 from rfl, run_add, pS_run]
  have e : (pS a (prodOf b a) 19 3 1 0).ends = 1 := by
    unfold St.ends
    rw [show (pS a (prodOf b a) 19 3 1 0).od = ⟨0, 0, 0, 0⟩ from by show dec 0 = _; kernel_rfl]
    rfl
  rw [St.run, if_neg (by rw [e]; decide)]
  unfold St.stop
  rw [e]
  rfl
theorem ints_addr' {W : World} {a : Option Addr} {xs : List Int} (h : IntsAt W a xs) (h0 : 0 < xs.length) : ∃ b o, a = some ⟨b, o, none⟩ ∧ ∀ j, j < xs.length → W.cell? ⟨b, o + j, none⟩ = some (.int .i64 (xs[j]?.getD 0)) := by
  obtain ⟨b, o, e, _⟩ := h 0 h0
  refine ⟨b, o, e, fun j hj => ?_⟩
  obtain ⟨b', o', e', hc⟩ := h j hj
  rw [e] at e'
  injection e' with e'
  injection e' with e1 e2
  subst e1; subst e2
  exact hc
theorem prod_law {x y : Int} (hx : -8388608 ≤ x ∧ x ≤ 8388607) (hy : -8388608 ≤ y ∧ y ≤ 8388607) : (-70368744177664 ≤ x * y ∧ x * y ≤ 70368744177664) ∧ ((x = -8388608 ∧ y = -8388608) ∨ x * y < 70368744177664) := by
  have h1 : 0 ≤ (8388608 - x) * (8388608 + y) := Int.mul_nonneg (by omega) (by omega)
  have h2 : 0 ≤ (8388608 + x) * (8388608 - y) := Int.mul_nonneg (by omega) (by omega)
  have h3 : 0 ≤ (8388608 + x) * (8388608 + y) := Int.mul_nonneg (by omega) (by omega)
  have h4 : 0 ≤ (8388608 - x) * (8388608 - y) := Int.mul_nonneg (by omega) (by omega)
  have k1 : y ≠ -8388608 → 0 < (8388608 - x) * (8388608 + y) := fun h => Int.mul_pos (by omega) (by omega)
  have k2 : x ≠ -8388608 → 0 < (8388608 + x) * (8388608 - y) := fun h => Int.mul_pos (by omega) (by omega)
  simp only [Int.sub_mul, Int.add_mul, Int.mul_add, Int.mul_sub] at h1 h2 h3 h4 k1 k2
  omega
theorem prod_sgn {a b : Int} (ha : Wd a) (hb : Wd b) : (sgn a = -8388608 ∧ sgn b = -8388608) ∨ (sgn (prodOf b a) * 8388608 ≤ sgn a * sgn b ∧ sgn a * sgn b - sgn (prodOf b a) * 8388608 < 8388608) := by
  have h1 := sgn_bd ha
  have h2 := sgn_bd hb
  obtain ⟨⟨h3, h4⟩, h5⟩ := prod_law (x := sgn a) (y := sgn b) (by omega) (by omega)
  rcases h5 with h5 | h5
  · exact .inl h5
  · right
    unfold prodOf
    rw [Int.mul_comm (sgn b) (sgn a)]
    generalize sgn a * sgn b = P at *
    unfold sgn
    split <;> omega
theorem begErr_p (a b : Int) : begErr [8405251, a, b] [] 0 = if Wd a ∧ Wd b then 0 else 7 := by
  unfold begErr
  rw [if_pos (by simp)]
  by_cases h : Wd a ∧ Wd b
  · obtain ⟨h1, h2⟩ := id h
    unfold Wd at h1 h2
    have k : outW [8405251, a, b] < 0 := outW_neg.2 (by
      intro x hx
      simp at hx
      rcases hx with rfl | rfl | rfl <;> omega)
    rw [if_pos h, if_pos ⟨k, outW_neg.2 (fun x hx => by cases hx), by decide⟩]
  · rw [if_neg h, if_neg (fun k => h ⟨outW_neg.1 k.1 a (by simp), outW_neg.1 k.1 b (by simp)⟩)]
theorem begErr_u (a b : Int) : begErr [4260481, 6357634, 2179843, 6357511, a, b, 0, 0] [] 0 = if Wd a ∧ Wd b then 0 else 7 := by
  unfold begErr
  rw [if_pos (by simp)]
  by_cases h : Wd a ∧ Wd b
  · obtain ⟨h1, h2⟩ := id h
    unfold Wd at h1 h2
    have k : outW [4260481, 6357634, 2179843, 6357511, a, b, 0, 0] < 0 := outW_neg.2 (by
      intro x hx
      simp at hx
      rcases hx with rfl | rfl | rfl | rfl | rfl | rfl | rfl <;> omega)
    rw [if_pos h, if_pos ⟨k, outW_neg.2 (fun x hx => by cases hx), by decide⟩]
  · rw [if_neg h, if_neg (fun k => h ⟨outW_neg.1 k.1 a (by simp), outW_neg.1 k.1 b (by simp)⟩)]
theorem uS_ok {a b : Int} (ha : Wd a) (hb : Wd b) : SOk (uS a b 0 0 0 0 0) := by
  have h := begErr_u a b
  rw [if_pos ⟨ha, hb⟩] at h
  unfold Wd at ha hb
  rw [← uS_beg]
  refine begSt_ok (by simp) (by simp) (fun x hx => ?_) (fun x hx => by cases hx) (by decide)
  simp at hx
  rcases hx with rfl | rfl | rfl | rfl | rfl | rfl | rfl <;> omega
theorem pS_ok {a b : Int} (ha : Wd a) (hb : Wd b) : SOk (pS a b 0 0 0 0) := by
  unfold Wd at ha hb
  rw [← pS_beg]
  refine begSt_ok (by simp) (by simp) (fun x hx => ?_) (fun x hx => by cases hx) (by decide)
  simp at hx
  rcases hx with rfl | rfl | rfl <;> omega
end Go.Proofs.Ytbfhgcnfhjhgcaa
