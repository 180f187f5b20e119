/-
  The reference's Keeps.
-/
import Derived.BigQuiet
import Derived.Test.YtlocdkjnefmiaaaRefSafeOut
namespace Go.Proofs.Ytlocdkjnefmiaaa
open Go.RowKit
set_option linter.unusedVariables false
set_option linter.unusedSimpArgs false

/-- What Keeps answers where the arguments are good. -/
def KeepsRet (w : World) (l : Ln) (o : Ov) (s : Int × Int) (h : Bool) (m : Int) (e : Ending) (w' : World) : Prop := ∃ v, e = .returned (val2 v 0) ∧ rkeeps l o s h m v ∧ Below w.heap.size w w'
theorem rkeeps_is {l : Ln} {o : Ov} {s : Int × Int} {h : Bool} {m v : Int} (he : ovErr o s m = 0) (hv : rkeeps l o s h m v) : v = keepsOf l o s h m := by
  rcases hv with ⟨rfl, a⟩ | ⟨v0, vm, ⟨c, hc, hb⟩, a⟩
  · rcases keeps_is (h := h) l he with ⟨e, _⟩ | ⟨k, e, hk, ⟨c, hc, hb⟩, _⟩
    · exact e.symm
    · rw [a k c hk hc] at hb; cases hb
  · rcases keeps_is (h := h) l he with ⟨e, g⟩ | ⟨k, e, hk, ⟨d, hd, hbd⟩, g⟩
    · rw [g _ c (by omega) hc] at hb; cases hb
    · rw [e]
      rcases (by omega : v < (k : Int) ∨ v = (k : Int) ∨ (k : Int) < v) with x | x | x
      · rw [g _ c (by omega) hc] at hb; cases hb
      · exact x
      · rw [a k d x hd] at hbd; cases hbd
/-- What the reference's Keeps has laid. -/
structure KE (w : World) (l : Ln) (o : Ov) (s : Int × Int) (W : World) : Prop where
  ln : LnAt w.heap.size l W
  ov : OAt W (w.heap.size + 1) o
  s0 : W.cell? ⟨w.heap.size + 1 + 1, 0, none⟩ = some (.int .i64 s.1)
  s1 : W.cell? ⟨w.heap.size + 1 + 1, 1, none⟩ = some (.int .i64 s.2)
  lo : Below w.heap.size w W
theorem KE.call {w : World} {l : Ln} {o : Ov} {s : Int × Int} {W W' : World} (h : KE w l o s W) (hb : Below W.heap.size W W') : KE w l o s W' :=
  ⟨lnAt_call h.ln hb, h.ov.call hb, cell_later hb h.s0, cell_later hb h.s1, b_call hb h.lo⟩
theorem KE.new (w : World) (l : Ln) (o : Ov) (s : Int × Int) : KE w l o s (((w.alloc (.cells #[.int .i64 l.W, .int .i64 l.B, .int .i64 l.P, .int .i64 l.D, .int .i64 l.S, .int .i64 l.N] 25)).alloc (.cells #[.int .i64 o.lo, .int .i64 o.hi, .int .i64 o.warm.1, .int .i64 o.warm.2, .int .i64 o.cool.1, .int .i64 o.cool.2] 50)).alloc (.cells #[.int .i64 s.1, .int .i64 s.2] 31)) := by
  have h1 := lnAt_new' l w
  generalize hW1 : w.alloc (.cells #[.int .i64 l.W, .int .i64 l.B, .int .i64 l.P, .int .i64 l.D, .int .i64 l.S, .int .i64 l.N] 25) = W1 at *
  have z1 : W1.heap.size = w.heap.size + 1 := by rw [← hW1]; simp
  have hb1 : Below w.heap.size w W1 := by rw [← hW1]; exact b_alloc (Below.refl _ _) _
  have h2 := OAt.new W1 o
  generalize hW2 : W1.alloc (.cells #[.int .i64 o.lo, .int .i64 o.hi, .int .i64 o.warm.1, .int .i64 o.warm.2, .int .i64 o.cool.1, .int .i64 o.cool.2] 50) = W2 at *
  have z2 : W2.heap.size = w.heap.size + 1 + 1 := by rw [← hW2]; simp [z1]
  have hb2 : Below W1.heap.size W1 W2 := by rw [← hW2]; exact b_alloc (Below.refl _ _) _
  have c0 := (Cel.new W2 #[.int .i64 s.1, .int .i64 s.2] 31 0 _ rfl).1
  have c1 := (Cel.new W2 #[.int .i64 s.1, .int .i64 s.2] 31 1 _ rfl).1
  rw [z2] at c0 c1
  rw [z1] at h2
  have hb3 := b_alloc (Below.refl W2.heap.size W2) (.cells #[.int .i64 s.1, .int .i64 s.2] 31)
  exact ⟨lnAt_call (lnAt_call h1 hb2) hb3, h2.call hb3, c0, c1, b_call hb3 (b_call hb2 hb1)⟩

set_option maxRecDepth 100000 in
set_option maxHeartbeats 4000000 in
theorem refKeeps_ok (l : Ln) (hl : l.Ok) (o : Ov) (s : Int × Int) (h : Bool) (M : Nat) (he : ovErr o s M = 0) (w : World) :
    Calls Try.prog 39 #[l.val, o.val, spanV s, .bool h, .int .i64 M] w (KeepsRet w l o s h M) := by
  obtain ⟨ho, ⟨hs1, hs2, hs3⟩, hm1, hm2⟩ := ovErr_ok he
  have HO := hid ho
  have HL := hid hl
  have hov := fun W => refOven_any o s M W
  rw [he] at hov
  have HOV := hid hov
  have HBG := hid (fun W => refBegin_any s h hs1 hs2 hs3 W)
  have HMEM := hid (fun m c => mem_rlist (h := h) ho hs3 m c)
  have HON := hid (fun m => rlist_once (h := h) ho hs1 hs2 m)
  have HK0 := hid (KE.new w l o s)
  clear ho hl hov he
  go_enter Try.func39, Try.ntmps39
  go_wp2_with (first
    | (go_at_call 26; refine (refCheck_ok l HL.out _).mono ?_; rintro e w1 ⟨rfl, hb1⟩; have HK1 := hid (HK0.out.call hb1); obtain ⟨⟨o0, o1, o2⟩, o3, o4, o5⟩ := HK1.out.ov; have p0 := HK1.out.s0; have p1 := HK1.out.s1; clear hb1)
    | (go_at_call 81; refine (HOV.out _).mono ?_; rintro e w2 ⟨rfl, hb2⟩; have HK2 := hid (HK1.out.call hb2); clear o0 o1 o2 o3 o4 o5 p0 p1 hb2; have p0 := HK2.out.s0; have p1 := HK2.out.s1)
    | (go_at_call 82; refine (HBG.out _).mono ?_; rintro e w3 ⟨v3, rfl, hrow, hb3⟩; have hr3 : w3.ownsRow w2.heap.size 121 2 v3 (rlist o s h 0).length (cellsC (rlist o s h 0)) := (by rw [rlist, spread_len]; exact hrow); obtain ⟨a3, c3, rfl, hc3⟩ := rowCls hr3; have HC3 := hid hc3; have HK3 := hid (HK2.out.call hb3); clear hrow hb3 hr3 hc3 p0 p1))
  go_loopw [13, 14] (fun v mv wr => ∃ (m : Nat) (a : Option Addr) (c : Nat), m ≤ M + 1 ∧ mv = .int .i64 (m : Int) ∧ v = .slice a (rlist o s h m).length c ∧ ClAt wr a (rlist o s h m) ∧ KE w l o s wr ∧ ∀ (j : Nat) (c : Cl), j < m → CanBe o s h j c → l.bad c.1 = false) (fun _ mv _ => (M : Int).toNat + 1 - (intOf mv).toNat)
  case atStart => exact ⟨0, a3, c3, Nat.zero_le _, rfl, rfl, HC3.out, HK3.out, fun j _ hj => by omega⟩
  case round =>
    obtain ⟨m, a, ca, hm, rfl, rfl, hc, hk, hgood⟩ := hrel
    have HC := hid hc
    have HK := hid hk
    have HG := hid hgood
    clear hc hk hgood HC3 HK3 HK0
    have hM2 : (M : Int) ≤ 200 := hm2
    have hon := HON.out m
    have hfew := hon.few
    have hbd := hon.2
    obtain ⟨xs, hxs⟩ : ∃ xs, rlist o s h m = xs := ⟨_, rfl⟩
    have HXS := hid hxs
    have hmx := HMEM.out m
    rw [hxs] at HC hon hfew hbd hmx
    rw [hxs]
    have HBD := hid hbd
    have HMX := hid hmx
    clear hxs hon hbd hmx
    by_cases hle : m ≤ M
    · have hle2 : (m : Int) ≤ (M : Int) := by omega
      go_wp2
      go_loopw [15] (fun iv wx => ∃ i : Nat, i ≤ xs.length ∧ iv = .int .i64 (i : Int) ∧ ClAt wx a xs ∧ KE w l o s wx ∧ ∀ (i' : Nat) (hi : i' < xs.length), i' < i → l.bad xs[i'].1 = false) (fun iv _ => xs.length - (intOf iv).toNat)
      case atStart => exact ⟨0, Nat.zero_le _, rfl, HC.out, HK.out, fun i' _ hi => by omega⟩
      case round =>
        obtain ⟨i, hi, rfl, hc, hk, hgo⟩ := hrel
        have HC2 := hid hc
        have HK2 := hid hk
        have HGO := hid hgo
        clear hc hk hgo
        by_cases hil : i < xs.length
        · obtain ⟨lb, off, rfl, hc1, hc2⟩ := HC2.out i hil
          have hbd := HBD.out xs[i] (List.getElem_mem _)
          have hcan := (HMX.out xs[i]).1 (List.getElem_mem _)
          obtain ⟨x, hx⟩ : ∃ x, xs[i] = x := ⟨_, rfl⟩
          rw [hx] at hc1 hbd hcan
          obtain ⟨t, b⟩ := x
          simp only at hc1
          have HX := hid hx
          have HCAN := hid hcan
          have hsf := fun W => refsafe_bad l HL.out t hbd W
          obtain ⟨bd, hbad⟩ : ∃ bd, l.bad t = bd := ⟨_, rfl⟩
          rw [hbad] at hsf
          have HSF := hid hsf
          have HBAD := hid hbad
          have HC1 := hid hc1
          have i0 : (0 : Int) ≤ (i : Int) := by omega
          have i1 : (i : Int) < (xs.length : Int) := by omega
          obtain ⟨d0, d1, d2, d3, d4, d5⟩ := HK2.out.ln
          have HLN := hid HK2.out.ln
          clear hc2 hx hcan hsf hbad hbd
          cases bd
          · go_wp2
            go_region_held3 (fun w' => w'.cell? ⟨w.heap.size, 0, none⟩ = some (.int .i64 l.W) ∧ w'.cell? ⟨w.heap.size, 1, none⟩ = some (.int .i64 l.B) ∧ w'.cell? ⟨w.heap.size, 2, none⟩ = some (.int .i64 l.P) ∧ w'.cell? ⟨w.heap.size, 3, none⟩ = some (.int .i64 l.D) ∧ w'.cell? ⟨w.heap.size, 4, none⟩ = some (.int .i64 l.S) ∧ w'.cell? ⟨w.heap.size, 5, none⟩ = some (.int .i64 l.N) ∧ w'.cell? ⟨lb, off + i * 2, none⟩ = some (.int .i64 t))
              ((obtain ⟨e0, e1, e2, e3, e4, e5⟩ := HLN.out; have e6 := HC1.out; exact ⟨cell_later (show Below wr.heap.size wr _ from by (repeat (first | assumption | exact Below.refl _ _ | refine b_alloc ?_ _ | refine Below.drew ?_ | refine b_drewN ?_ _ | refine Below.setCell ?_ (by first | omega | (simp; done) | (simp; omega)) _ | refine b_call (by assumption) ?_))) e0, cell_later (show Below wr.heap.size wr _ from by (repeat (first | assumption | exact Below.refl _ _ | refine b_alloc ?_ _ | refine Below.drew ?_ | refine b_drewN ?_ _ | refine Below.setCell ?_ (by first | omega | (simp; done) | (simp; omega)) _ | refine b_call (by assumption) ?_))) e1, cell_later (show Below wr.heap.size wr _ from by (repeat (first | assumption | exact Below.refl _ _ | refine b_alloc ?_ _ | refine Below.drew ?_ | refine b_drewN ?_ _ | refine Below.setCell ?_ (by first | omega | (simp; done) | (simp; omega)) _ | refine b_call (by assumption) ?_))) e2, cell_later (show Below wr.heap.size wr _ from by (repeat (first | assumption | exact Below.refl _ _ | refine b_alloc ?_ _ | refine Below.drew ?_ | refine b_drewN ?_ _ | refine Below.setCell ?_ (by first | omega | (simp; done) | (simp; omega)) _ | refine b_call (by assumption) ?_))) e3, cell_later (show Below wr.heap.size wr _ from by (repeat (first | assumption | exact Below.refl _ _ | refine b_alloc ?_ _ | refine Below.drew ?_ | refine b_drewN ?_ _ | refine Below.setCell ?_ (by first | omega | (simp; done) | (simp; omega)) _ | refine b_call (by assumption) ?_))) e4, cell_later (show Below wr.heap.size wr _ from by (repeat (first | assumption | exact Below.refl _ _ | refine b_alloc ?_ _ | refine Below.drew ?_ | refine b_drewN ?_ _ | refine Below.setCell ?_ (by first | omega | (simp; done) | (simp; omega)) _ | refine b_call (by assumption) ?_))) e5, cell_later (show Below wr.heap.size wr _ from by (repeat (first | assumption | exact Below.refl _ _ | refine b_alloc ?_ _ | refine Below.drew ?_ | refine b_drewN ?_ _ | refine Below.setCell ?_ (by first | omega | (simp; done) | (simp; omega)) _ | refine b_call (by assumption) ?_))) e6⟩))
              (first | (go_at_call 62; refine (HSF.out _).mono ?_; rintro e w5 ⟨rfl, hb5⟩; have HB5 := hid (show Below wr.heap.size wr w5 from b_call hb5 (by (repeat (first | assumption | exact Below.refl _ _ | refine b_alloc ?_ _ | refine Below.drew ?_ | refine b_drewN ?_ _ | refine Below.setCell ?_ (by first | omega | (simp; done) | (simp; omega)) _ | refine b_call (by assumption) ?_)))); clear hb5))
            go_wp2
            go_roundw
            case rel => exact ⟨i + 1, by omega, by go_num, HC2.out.below HB5.out, HK2.out.call HB5.out, fun i' h1 h2 => by
                          by_cases g : i' = i
                          · subst g; rw [HX.out]; exact HBAD.out
                          · exact HGO.out i' h1 (by omega)⟩
            case measure => simp [intOf]; omega
          · go_wp2
            go_region_held3 (fun w' => w'.cell? ⟨w.heap.size, 0, none⟩ = some (.int .i64 l.W) ∧ w'.cell? ⟨w.heap.size, 1, none⟩ = some (.int .i64 l.B) ∧ w'.cell? ⟨w.heap.size, 2, none⟩ = some (.int .i64 l.P) ∧ w'.cell? ⟨w.heap.size, 3, none⟩ = some (.int .i64 l.D) ∧ w'.cell? ⟨w.heap.size, 4, none⟩ = some (.int .i64 l.S) ∧ w'.cell? ⟨w.heap.size, 5, none⟩ = some (.int .i64 l.N) ∧ w'.cell? ⟨lb, off + i * 2, none⟩ = some (.int .i64 t))
              ((obtain ⟨e0, e1, e2, e3, e4, e5⟩ := HLN.out; have e6 := HC1.out; exact ⟨cell_later (show Below wr.heap.size wr _ from by (repeat (first | assumption | exact Below.refl _ _ | refine b_alloc ?_ _ | refine Below.drew ?_ | refine b_drewN ?_ _ | refine Below.setCell ?_ (by first | omega | (simp; done) | (simp; omega)) _ | refine b_call (by assumption) ?_))) e0, cell_later (show Below wr.heap.size wr _ from by (repeat (first | assumption | exact Below.refl _ _ | refine b_alloc ?_ _ | refine Below.drew ?_ | refine b_drewN ?_ _ | refine Below.setCell ?_ (by first | omega | (simp; done) | (simp; omega)) _ | refine b_call (by assumption) ?_))) e1, cell_later (show Below wr.heap.size wr _ from by (repeat (first | assumption | exact Below.refl _ _ | refine b_alloc ?_ _ | refine Below.drew ?_ | refine b_drewN ?_ _ | refine Below.setCell ?_ (by first | omega | (simp; done) | (simp; omega)) _ | refine b_call (by assumption) ?_))) e2, cell_later (show Below wr.heap.size wr _ from by (repeat (first | assumption | exact Below.refl _ _ | refine b_alloc ?_ _ | refine Below.drew ?_ | refine b_drewN ?_ _ | refine Below.setCell ?_ (by first | omega | (simp; done) | (simp; omega)) _ | refine b_call (by assumption) ?_))) e3, cell_later (show Below wr.heap.size wr _ from by (repeat (first | assumption | exact Below.refl _ _ | refine b_alloc ?_ _ | refine Below.drew ?_ | refine b_drewN ?_ _ | refine Below.setCell ?_ (by first | omega | (simp; done) | (simp; omega)) _ | refine b_call (by assumption) ?_))) e4, cell_later (show Below wr.heap.size wr _ from by (repeat (first | assumption | exact Below.refl _ _ | refine b_alloc ?_ _ | refine Below.drew ?_ | refine b_drewN ?_ _ | refine Below.setCell ?_ (by first | omega | (simp; done) | (simp; omega)) _ | refine b_call (by assumption) ?_))) e5, cell_later (show Below wr.heap.size wr _ from by (repeat (first | assumption | exact Below.refl _ _ | refine b_alloc ?_ _ | refine Below.drew ?_ | refine b_drewN ?_ _ | refine Below.setCell ?_ (by first | omega | (simp; done) | (simp; omega)) _ | refine b_call (by assumption) ?_))) e6⟩))
              (first | (go_at_call 62; refine (HSF.out _).mono ?_; rintro e w5 ⟨rfl, hb5⟩; have HB5 := hid (show Below wr.heap.size wr w5 from b_call hb5 (by (repeat (first | assumption | exact Below.refl _ _ | refine b_alloc ?_ _ | refine Below.drew ?_ | refine b_drewN ?_ _ | refine Below.setCell ?_ (by first | omega | (simp; done) | (simp; omega)) _ | refine b_call (by assumption) ?_)))); clear hb5))
            go_wp2
            go_ret2
            exact ⟨(m : Int), rfl, .inr ⟨by omega, hle2, ⟨(t, b), by rw [Int.toNat_natCast]; exact HCAN.out, HBAD.out⟩, fun j c hj hc => HG.out j c (by omega) hc⟩, b_call HB5.out HK2.out.lo⟩
        · obtain rfl : i = xs.length := by omega
          obtain ⟨⟨o0, o1, o2⟩, o3, o4, o5⟩ := HK2.out.ov
          go_wp2_with (first
            | (go_at_call 83; refine (refMinute_any o HO.out xs hfew HBD.out a ca _ HC2.out).mono ?_; rintro e w6 ⟨v6, rfl, hrow, hb6⟩; have hr6 : w6.ownsRow wr.heap.size 121 2 v6 (rlist o s h (m + 1)).length (cellsC (rlist o s h (m + 1))) := (by rw [rlist, HXS.out]; exact hrow); obtain ⟨a6, c6, rfl, hc6⟩ := rowCls hr6; have HC6 := hid hc6; have HK6 := hid (HK2.out.call hb6); clear hrow hb6 hr6 hc6))
          go_roundw
          case rel => exact ⟨m + 1, a6, c6, by omega, by go_num, rfl, HC6.out, HK6.out, fun j c hj hc => by
                        by_cases g : j = m
                        · subst g
                          obtain ⟨i', hi', e⟩ := List.getElem_of_mem ((HMX.out c).2 hc)
                          rw [← e]; exact HGO.out i' hi' hi'
                        · exact HG.out j c (by omega) hc⟩
          case measure => simp [intOf]; omega
    · obtain rfl : m = M + 1 := by omega
      have hle2 : ¬ (((M + 1 : Nat) : Int)) ≤ (M : Int) := by omega
      go_wp2
      go_ret2
      exact ⟨-1, rfl, .inl ⟨rfl, fun j c hj hc => HG.out j c (by omega) hc⟩, HK.out.lo⟩
set_option maxRecDepth 100000 in
set_option maxHeartbeats 1000000 in
theorem refKeeps_no (l : Ln) (hl : ¬ l.Ok) (o : Ov) (s : Int × Int) (h : Bool) (m : Int) (w : World) :
    Calls Try.prog 39 #[l.val, o.val, spanV s, .bool h, .int .i64 m] w (Ret w (val2 0 7)) := by
  have HK0 := hid (KE.new w l o s)
  go_enter Try.func39, Try.ntmps39
  go_wp2_with (first
    | (go_at_call 26; refine (refCheck_no l hl _).mono ?_; rintro e w1 ⟨rfl, hb1⟩; have HK1 := hid (HK0.out.call hb1); clear hb1))
  go_ret2
  exact ⟨rfl, HK1.out.lo⟩
set_option maxRecDepth 100000 in
set_option maxHeartbeats 1000000 in
theorem refKeeps_oven (l : Ln) (hl : l.Ok) (o : Ov) (s : Int × Int) (h : Bool) (m er : Int) (he : ovErr o s m = er) (hne : er ≠ 0) (w : World) :
    Calls Try.prog 39 #[l.val, o.val, spanV s, .bool h, .int .i64 m] w (Ret w (val2 0 er)) := by
  have HK0 := hid (KE.new w l o s)
  have hov := fun W => refOven_any o s m W
  rw [he] at hov
  have HOV := hid hov
  have hne' : (er != 0) = true := by simpa using hne
  clear hov he
  go_enter Try.func39, Try.ntmps39
  go_wp2_with (first
    | (go_at_call 26; refine (refCheck_ok l hl _).mono ?_; rintro e w1 ⟨rfl, hb1⟩; have HK1 := hid (HK0.out.call hb1); obtain ⟨⟨o0, o1, o2⟩, o3, o4, o5⟩ := HK1.out.ov; have p0 := HK1.out.s0; have p1 := HK1.out.s1; clear hb1)
    | (go_at_call 81; refine (HOV.out _).mono ?_; rintro e w2 ⟨rfl, hb2⟩; have HK2 := hid (HK1.out.call hb2); clear o0 o1 o2 o3 o4 o5 p0 p1 hb2))
  go_ret2
  exact ⟨rfl, HK2.out.lo⟩
theorem refKeeps_any (l : Ln) (o : Ov) (s : Int × Int) (h : Bool) (m : Int) (w : World) :
    Calls Try.prog 39 #[l.val, o.val, spanV s, .bool h, .int .i64 m] w (Ret w (val2 (if keepsErr l o s m = 0 then keepsOf l o s h m else 0) (keepsErr l o s m))) := by
  unfold keepsErr
  by_cases hl : l.Ok
  · rw [if_pos hl]
    by_cases he : ovErr o s m = 0
    · rw [if_pos he, he]
      have hm := (ovErr_ok he).2.2
      obtain ⟨M, hM⟩ : ∃ M : Nat, m = (M : Int) := ⟨m.toNat, by omega⟩
      subst hM
      refine (refKeeps_ok l hl o s h M he w).mono ?_
      rintro e w' ⟨v, rfl, hv, hb⟩
      exact ⟨by rw [rkeeps_is he hv], hb⟩
    · rw [if_neg he]
      exact refKeeps_oven l hl o s h m _ rfl he w
  · rw [if_neg hl, if_neg (by omega)]
    exact refKeeps_no l hl o s h m w
end Go.Proofs.Ytlocdkjnefmiaaa
