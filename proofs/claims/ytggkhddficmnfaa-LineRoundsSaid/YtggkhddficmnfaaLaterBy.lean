/-
  laterBy: sums of a number and a shift.
-/
import Derived.Test.YtggkhddficmnfaaWithin
namespace Go.Proofs.Ytggkhddficmnfaa
open Go.RowKit
set_option linter.unusedVariables false
set_option linter.unusedSimpArgs false

theorem mem_of_word {ys : List Nat} {k : Nat} (hne : ys[k]?.getD 0 ≠ 0) (h64 : ys[k]?.getD 0 < 2 ^ 64) : ∃ m, m / 64 = k ∧ mem ys m = true := by
  obtain ⟨j, hj⟩ := Nat.exists_testBit_of_ne_zero hne
  have hj64 : j < 64 := by
    by_cases h : j < 64
    · exact h
    · rw [bit_high h64 (by omega)] at hj; cases hj
  refine ⟨64 * k + j, by omega, ?_⟩
  unfold mem
  rw [show (64 * k + j) / 64 = k by omega, show (64 * k + j) % 64 = j by omega]; exact hj

theorem NumsAt.low {W : World} {base base' g cap : Nat} {xs : List Nat} (h : NumsAt W base g cap xs) (hb : base' ≤ base) : NumsAt W base' g cap xs := ⟨ownsRow_low h.1 hb, h.2⟩
theorem IntsAt.but {W W' : World} {a : Option Addr} {xs : List Int} {r : Nat} (h : IntsAt W a xs) (hg : W.grownBy W' (some r)) (hne : ∀ b off, a = some ⟨b, off, none⟩ → b ≠ r) : IntsAt W' a xs := fun j hj => by
  obtain ⟨b, off, e, hc⟩ := h j hj
  exact ⟨b, off, e, (World.cell?_of_block (a := ⟨b, off + j, none⟩) (hg.block b (World.block_lt_of_cell? _ _ hc) (by simpa using hne b off e))).trans hc⟩
/-- A row of numbers is a slice that holds them. -/
theorem rowInts {W : World} {base n : Nat} {v : Value} {ns : List Nat} (h : W.ownsRow base 3 1 v n (cellsN ns)) : ∃ a c, v = .slice a n c ∧ IntsAt W a (ns.map fun k : Nat => (k : Int)) ∧ ∀ b off, a = some ⟨b, off, none⟩ → base ≤ b := by
  have hn : ns.length = n := by have := h.1; simpa [cellsN] using this
  rcases h.2 with ⟨rfl, rfl⟩ | ⟨g, c, cur, rfl, _⟩
  · exact ⟨none, 0, rfl, (fun j hj => by simp at hj; omega), fun b off e => by cases e⟩
  · refine ⟨some ⟨g, 0, none⟩, c, rfl, fun j hj => ⟨g, 0, rfl, ?_⟩, fun b off e => by cases e; exact (h.lt g rfl).1⟩
    have hj' : j < ns.length := by simpa using hj
    rw [Nat.zero_add]
    refine (h.cellAt j (by omega)).trans ?_
    simp [cellsN, hj']
/-- The sums so far: those with a shift that is no longer to come. -/
def SumsTo (ys : List Nat) (S L : Int → Bool → Bool) (xs : List Nat) : Prop :=
  ∀ n, mem xs n = true ↔ ∃ s m : Nat, S s false = true ∧ L s false = false ∧ mem ys m = true ∧ n = m + s
theorem SumsTo.skip {ys xs : List Nat} {S L : Int → Bool → Bool} (h : SumsTo ys S L xs) (s0 : Int) : SumsTo ys S (fun s c => L s c && !(s == s0 && c == true)) xs := fun n => by
  rw [h n]
  constructor
  · rintro ⟨s, m, a, b, r⟩; exact ⟨s, m, a, by simp [b], r⟩
  · rintro ⟨s, m, a, b, r⟩; exact ⟨s, m, a, by simpa using b, r⟩
theorem SumsTo.step {ys xs zs : List Nat} {S L : Int → Bool → Bool} {d : Nat} (h : SumsTo ys S L xs) (hS : S d false = true) (hz : ∀ n, mem zs n = (mem xs n || (decide (d ≤ n) && mem ys (n - d)))) :
    SumsTo ys S (fun s c => L s c && !(s == (d : Int) && c == false)) zs := fun n => by
  rw [hz n, Bool.or_eq_true, h n, Bool.and_eq_true, decide_eq_true_eq]
  constructor
  · rintro (⟨s, m, a, b, r⟩ | ⟨h1, h2⟩)
    · exact ⟨s, m, a, by simp [b], r⟩
    · exact ⟨d, n - d, hS, by simp, h2, by omega⟩
  · rintro ⟨s, m, a, b, c, e⟩
    by_cases hs : s = d
    · subst hs; exact .inr ⟨by omega, by rw [show n - s = m by omega]; exact c⟩
    · refine .inl ⟨s, m, a, ?_, c, e⟩
      have : ((s : Int) == (d : Int)) = false := by
        cases hc : ((s : Int) == (d : Int))
        · rfl
        · have := eq_of_beq hc; exact absurd (by omega : s = d) hs
      simpa [this] using b

set_option maxRecDepth 100000 in
set_option maxHeartbeats 2000000 in
theorem laterBy_any (ys : List Nat) (nb : Nat) (h1 : 1 ≤ nb) (h2 : nb ≤ 2560) (hly : ys.length = nb / 64 + 2) (hym : ∀ m, mem ys m = true → m < nb) (S : Int → Bool → Bool) (hS : ∀ s c, S s c = true → 0 ≤ s ∧ s < nb) (base gy cy b n : Nat) (w : World)
    (hy : NumsAt w base gy cy ys) (hs : SetAt w 81 b n S) :
    Calls Try.prog 74 #[.slice (some ⟨gy, 0, none⟩) ys.length cy, .map (some b), .int .i64 nb] w fun e w' =>
      ∃ g c zs, zs.length = nb / 64 + 2 ∧ e = .returned (.slice (some ⟨g, 0, none⟩) zs.length c) ∧ NumsAt w' w.heap.size g c zs ∧ (∀ i, mem zs i = true ↔ ∃ s m : Nat, S s false = true ∧ mem ys m = true ∧ i = (m + s) % nb) ∧ Below w.heap.size w w' := by
  have HY := hid hy
  have HS := hid hs
  clear hy hs
  have hnb := numbersBelow_any (2 * nb) (by omega)
  have hnb' := numbersBelow_any nb (by omega)
  have e0 : ((2 * nb : Nat) : Int) = 2 * (nb : Int) := by simp
  rw [e0] at hnb
  obtain ⟨N2, hN2⟩ : ∃ N2, 2 * nb / 64 + 2 = N2 := ⟨_, rfl⟩
  obtain ⟨N1, hN1⟩ : ∃ N1, nb / 64 + 2 = N1 := ⟨_, rfl⟩
  rw [hN2] at hnb
  rw [hN1] at hnb' hly ⊢
  have HNB := hid hnb
  have HNB' := hid hnb'
  have HN2 := hid hN2
  have HN1 := hid hN1
  have HLY := hid hly
  have HYM := hid hym
  have HSS := hid hS
  clear hnb hnb' e0 hN2 hN1 hly hym hS
  go_enter Try.func74, Try.ntmps74
  go_wp2_with (first
    | (go_at_call 70; refine (HNB.out _).mono ?_; rintro e w1 ⟨g, cap, rfl, hn1, hb1⟩; have hs1 := HS.out.below hb1)
    | (at_range; refine wpList_set_range _ rfl _ 105 rfl pairR Try.underlying105 b n S rfl hs1 ?_; intro w2 cnt hrg2 hg2 hsz2))
  go_frame
  have hnl := hn1.lt
  have hbl := HS.out.lt
  have hgl := HY.out.lt
  have hn2 := hn1.kept hg2 (by simp)
  have hb2 : Below w.heap.size w w2 := b_call (below_of_grown hg2) hb1
  have hsz1 := hb1.size
  obtain ⟨r, hr⟩ : ∃ r, w1.heap.size = r := ⟨_, rfl⟩
  rw [hr] at hrg2 hnl hsz1 ⊢
  clear hs1 hn1 hb1 hg2 hsz2 hr
  have hz0 : SumsTo ys S S (List.replicate N2 0) := fun i => by
    rw [mem_zero]
    constructor
    · intro h; cases h
    · rintro ⟨s, m, a, b, _⟩; rw [a] at b; cases b
  go_loopw [8] (fun _ wr => ∃ (L : Int → Bool → Bool) (cnt : Nat) (xs : List Nat), RangeAt wr 81 b r n S L cnt ∧ xs.length = N2 ∧ NumsAt wr w.heap.size g cap xs ∧ SumsTo ys S L xs ∧ Below w.heap.size w wr) (fun _ wr => wr.rangeLeft b r)
  case atStart => exact ⟨S, cnt, _, hrg2, by simp, hn2, hz0, hb2⟩
  case round =>
    obtain ⟨L, cnt', xs, hrg, hxl, hx, hsum, hbr⟩ := hrel
    clear hrg2 hn2 hb2 hz0
    have HX := hid hx
    have HXL := hid hxl
    have HSUM := hid hsum
    clear hx hxl hsum
    go_wp2_with (at_next; refine wpList_set_next _ rfl _ rfl pairR b r n S L cnt' rfl hrg ?_ ?_; rotate_left; (intro s c W2 cnt2 hsw hLs hSs hrg2 hlt2 hgr2 hsz3 hen; have HRG2 := hid hrg2; have HLS := hid hLs; have HS2 := hid hSs; clear hrg2 hLs hSs); rotate_left; (intro hc0 hl0; have HL0 := hid hl0; clear hl0))
    rotate_left
    · obtain rfl : c = false := by have hcf : (!c) = true := by assumption
                                   simpa using hcf
      have hd := HSS.out s false HS2.out
      obtain ⟨d, rfl⟩ : ∃ d : Nat, s = d := ⟨s.toNat, by omega⟩
      have hbr2 : Below w.heap.size w (W2.alloc (.cells #[.int .i64 d, .bool false] 81)) := b_alloc (hbr.grown hgr2 hbr.size (fun k e => by cases e; omega)) _
      have hx2 := (HX.out.kept hgr2 (by simp; omega)).kept (World.grownBy_alloc W2 (.cells #[.int .i64 d, .bool false] 81) none) (by simp)
      have hy2 := HY.out.below hbr2
      have hroom : ∀ k, k < ys.length → ys[k]?.getD 0 ≠ 0 → d / 64 + k + 1 < xs.length := fun k hk hne => by
        obtain ⟨m, hm, hm1⟩ := mem_of_word hne (HY.out.2 _ (by simp [hk]))
        have := HYM.out m hm1
        have := HXL.out
        have := HN2.out
        omega
      have hl1 := HXL.out
      have hl2 := HN2.out
      have hl3 := HLY.out
      have hl4 := HN1.out
      have hC := addMoved_any xs ys d (by omega) (by omega) (by omega) hroom w.heap.size base g cap gy cy (by omega) _ hx2 hy2
      rw [HXL.out] at hC
      clear hl1 hl2 hl3 hl4 hroom hx2 hy2 hen
      refine hC.mono ?_
      rintro e W3 ⟨rfl, ⟨zs, hzl, hz, hm⟩, hg3⟩
      have hrg3 := (HRG2.out.kept (World.grownBy_alloc W2 (.cells #[.int .i64 d, .bool false] 81) none) (by simp) (by simp)).kept hg3 (by simp; omega) (by simp; omega)
      have hsum3 := HSUM.out.step HS2.out hm
      have hbr3 : Below w.heap.size w W3 := hbr2.grown hg3 hbr2.size (fun k e => by cases e; omega)
      have HRG3 := hid hrg3
      have HM := hid hm
      have HZL := hid hzl
      have HSUM3 := hid hsum3
      clear hrg3 hm hzl hsum3 hC
      go_wp2
      refine ⟨⟨_, cnt2, zs, HRG3.out, HZL.out, hz, HSUM3.out, hbr3⟩, ?_⟩
      rw [HRG3.out.left, hrg.left]; omega
    · obtain rfl : c = true := by have hcf : (!c) = false := by assumption
                                  simpa using hcf
      refine ⟨⟨_, cnt2, xs, HRG2.out.kept (World.grownBy_alloc W2 _ none) (by simp) (by simp), HXL.out, (HX.out.kept hgr2 (by simp; omega)).kept (World.grownBy_alloc W2 _ none) (by simp), HSUM.out.skip s, b_alloc (hbr.grown hgr2 hbr.size (fun k e => by cases e; omega)) _⟩, ?_⟩
      rw [(HRG2.out.kept (World.grownBy_alloc W2 _ none) (by simp) (by simp)).left, hrg.left]; omega
    · refine (HNB'.out wr).mono ?_
      rintro e W4 ⟨ga, ca, rfl, hna, hba⟩
      have hxl2 := HX.out.below hba
      have hsz4 := hbr.size
      have hna2 := hna.low hsz4
      have hgaw := hna.lt
      have hbr4 := b_call hba hbr
      have hl1 := HXL.out
      have hl2 := HN2.out
      have hL := list_any xs (by omega) w.heap.size g cap W4 hxl2
      rw [HXL.out] at hL
      have HLI := hid hL
      have HNA := hid hna2
      clear hL hna hna2 hxl2 hl1 hl2
      go_wp2_with (go_at_call 75; refine HLI.out.mono ?_; rintro e W5 ⟨v, rfl, hv, hb5⟩; obtain ⟨av, cv, rfl, hiv, hav⟩ := rowInts hv; have HIV := hid hiv; have HAV := hid hav; have HB5 := hid hb5; clear hv hb5 hiv hav)
      obtain ⟨ns, hns⟩ : ∃ ns, listTo xs (64 * N2) = ns := ⟨_, rfl⟩
      rw [hns] at HIV ⊢
      have HNS := hid hns
      have hnl2 : ns.length ≤ 64 * N2 := by rw [← hns]; exact listTo_len _ _
      have hN2b : N2 ≤ 200 := by have := HN2.out; omega
      have hN1b : nb < 64 * N1 := by have := HN1.out; omega
      have h0 : NumsAt W5 w.heap.size ga ca (List.replicate N1 0) := HNA.out.below HB5.out
      have hbr5 := b_call HB5.out hbr4
      clear hns
      go_loopw [34] (fun i wr => ∃ (k : Nat) (zs : List Nat), k ≤ ns.length ∧ i = .int .i64 k ∧ zs.length = N1 ∧ NumsAt wr w.heap.size ga ca zs ∧ (∀ q, mem zs q = true ↔ ∃ j, j < k ∧ q = (ns[j]?.getD 0) % nb) ∧ IntsAt wr av (ns.map fun k : Nat => (k : Int)) ∧ Below w.heap.size w wr) (fun i _ => ns.length - (intOf i).toNat)
      case atStart =>
        refine ⟨0, _, Nat.zero_le _, rfl, by simp, h0, fun q => ?_, HIV.out, hbr5⟩
        rw [mem_zero]
        exact ⟨(fun h => by cases h), (fun ⟨j, hj, _⟩ => by omega)⟩
      case round =>
        obtain ⟨k, zs, hk, rfl, hzl, hz, hm, hi, hbr6⟩ := hrel
        have HZ := hid hz
        have HM := hid hm
        have HI := hid hi
        have HZL := hid hzl
        clear hz hm hi hzl h0 hbr5
        by_cases hlt : k < ns.length
        · obtain ⟨b6, off6, rfl, hc6⟩ := HI.out k (by simpa using hlt)
          obtain ⟨m, hmv⟩ : ∃ m, ns[k]?.getD 0 = m := ⟨_, rfl⟩
          have hx6 : (ns.map fun k : Nat => (k : Int))[k]?.getD 0 = (m : Int) := by rw [← hmv]; simp [hlt]
          rw [hx6] at hc6
          have e1 : (m : Int).tmod (nb : Int) = ((m % nb : Nat) : Int) := by rw [Int.tmod_eq_emod_of_nonneg (by omega)]; simp
          have hq := Nat.mod_lt m (show 0 < nb by omega)
          obtain ⟨q, hqv⟩ : ∃ q, m % nb = q := ⟨_, rfl⟩
          rw [hqv] at e1 hq
          have e2 : ¬ (nb : Int) = 0 := by omega
          have e3 : ¬ nb = 0 := by omega
          have e4 : IntKind.i64.wrap (q : Int) = (q : Int) := IntWalk.i64_in _ (by omega)
          have hA := add_any zs q (by have := HZL.out; omega) (by omega) w.heap.size ga ca _ HZ.out
          rw [HZL.out] at hA
          have HA := hid hA
          have HMV := hid hmv
          have HQV := hid hqv
          clear hA hmv hqv hx6
          go_wp2_with (go_at_call 72; refine HA.out.mono ?_; rintro e W7 ⟨rfl, hz7, hg7⟩; have HZ7 := hid hz7; have HG7 := hid hg7; clear hz7 hg7)
          go_roundw
          case rel =>
            have hg7 := HG7.out
            refine ⟨k + 1, _, by omega, by go_num, by simp [HZL.out], HZ7.out, fun q' => ?_, HI.out.but hg7 (fun b off e => by have := HAV.out b off e; omega), hbr6.grown hg7 hbr6.size (fun r e => by cases e; omega)⟩
            rw [mem_add (by have := HZL.out; omega), Bool.or_eq_true, HM.out q', beq_iff_eq]
            constructor
            · rintro (⟨j, hj, e⟩ | rfl)
              · exact ⟨j, by omega, e⟩
              · exact ⟨k, by omega, by rw [HMV.out, HQV.out]⟩
            · rintro ⟨j, hj, e⟩
              by_cases h : j = k
              · subst h; rw [HMV.out, HQV.out] at e; exact .inr e
              · exact .inl ⟨j, by omega, e⟩
          case measure => simp [intOf]; omega
        · obtain rfl : k = ns.length := by omega
          go_wp2
          go_ret
          refine ⟨ga, ca, zs, HZL.out, by rw [HZL.out]; rfl, HZ.out, fun i => ?_, hbr6⟩
          rw [HM.out i]
          have hin : ∀ m, (∃ j, j < ns.length ∧ m = ns[j]?.getD 0) ↔ mem xs m = true := fun m => by
            rw [← HNS.out]
            constructor
            · rintro ⟨j, hj, rfl⟩
              have := List.getElem_mem hj
              rw [List.getElem?_eq_getElem hj]
              exact (List.mem_filter.1 this).2
            · intro h
              have hlt : m < 64 * N2 := by
                by_cases hh : m < 64 * N2
                · exact hh
                · unfold mem at h
                  rw [List.getElem?_eq_none (by have := HXL.out; omega)] at h
                  simp at h
              obtain ⟨j, hj, e⟩ := List.mem_iff_getElem.1 (List.mem_filter.2 ⟨List.mem_range.2 hlt, h⟩ : m ∈ listTo xs (64 * N2))
              exact ⟨j, hj, by rw [List.getElem?_eq_getElem (show j < (listTo xs (64 * N2)).length from hj)]; exact e.symm⟩
          constructor
          · rintro ⟨j, hj, e⟩
            obtain ⟨s, m, a, _, c, e2⟩ := (HSUM.out _).1 ((hin _).1 ⟨j, hj, rfl⟩)
            exact ⟨s, m, a, c, by rw [e, e2]⟩
          · rintro ⟨s, m, a, c, e⟩
            have hw : (Lit.int .i64 (s : Int)).wf = true := WalkArith.wf_i64 (by have := HSS.out s false a; omega)
            obtain ⟨j, hj, e2⟩ := (hin (m + s)).2 ((HSUM.out _).2 ⟨s, m, a, HL0.out s false hw, c, rfl⟩)
            exact ⟨j, hj, by rw [← e2]; exact e⟩
end Go.Proofs.Ytggkhddficmnfaa
