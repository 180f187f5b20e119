/-
  The law LineNarrower, for any line, spans and bytes: given that Awake answers true.
-/
import Derived.Test.YtlocdkjnefmiaaaNarrowLaw
namespace Go.Proofs.Ytlocdkjnefmiaaa
open Go.RowKit
set_option linter.unusedVariables false
set_option linter.unusedSimpArgs false

theorem narrower_row (hA : ∀ W, Calls Try.prog 22 #[] W (Ret W (.bool true))) (w : World) (l : Ln) (a : Option Addr) (ca : Nat) (ss : List (Int × Int)) (hlen : Len ss.length) (hx : SpansAt w a ss) (b : Option Addr) (cb : Nat) (x : List Int) (hxl : x.length ≤ 140737488351232) (hxb : bytesOk x) (hy : BytesAt w b x) :
    Calls Try.prog 15 #[l.val, .slice a ss.length ca, .slice b x.length cb] w fun e w' => e = .returned (.bool true) ∧ Below w.heap.size w w' := by
  by_cases hce : canErr l ss = 0
  · obtain ⟨h, hls, he⟩ := canErr_zero hce
    have hb := h.beats
    obtain ⟨nb, hnb⟩ : ∃ nb : Nat, l.W * l.B = (nb : Int) := ⟨(l.W * l.B).toNat, by omega⟩
    have hll := lessTo_len ss x ss.length
    refine narrower_core hA l a b ca cb ss hls (spansErr_zero he) x hxl hxb (lostTo l ss ss.length) (lostTo l (lessTo ss x ss.length) ss.length) (less_lost he hxb) (Reach l ss nb ss.length) (Reach l (lessTo ss x ss.length) nb ss.length) (fun n => less_reach he hxb nb ss.length n (Nat.le_refl _)) (fun W g => Can_ret l h nb hnb a ca ss hls he W g) (fun W a' c' g => ?_) w hx hy
    have := Can_ret l h nb hnb a' c' (lessTo ss x ss.length) (by omega) (lessTo_ok he hxb) W g
    rw [hll] at this
    exact this
  · exact narrower_err hA l a b ca cb x.length ss _ hce (fun W g => Can_err l a ca ss hlen hce W g) w hx
end Go.Proofs.Ytlocdkjnefmiaaa
