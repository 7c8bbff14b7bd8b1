/- A draft that came in. -/
import Derived.Test.YtcgljmeppmdihaaSoA
import Derived.WalkKit
import Derived.ProofKit
import Derived.OpenShut
import Derived.Below
import Derived.Deep.Slices
import Derived.Deep.Fields
import Derived.ChangeSame
import Derived.Test.YtcgljmeppmdihaaRows
import Derived.ShutString
import Derived.ChangeOld
import Derived.Test.YtcgljmeppmdihaaMgSoK
namespace Go.Proofs.Ytcgljmeppmdihaa
open Go.ChangeShapes Go.WideShapes Go.ChangeAt Go.RowKit
set_option linter.unusedVariables false
set_option maxRecDepth 100000
theorem drw_cells : Try.prog.cellsOf 24 = 3 := by kernel_rfl
theorem drw_u8 : Try.prog.cellsOf 5 = 1 := by kernel_rfl
theorem drw_u8s : Try.prog.cellsOf 22 = 1 := by kernel_rfl
theorem drw_lt {w : World} {b o : Nat} {v : Value} (h : w.cell? ⟨b, o, none⟩ = some v) : b < w.heap.size := by
  by_cases hb : b < w.heap.size
  · exact hb
  · have : w.heap[b]? = none := by simp; omega
    simp [World.cell?, this] at h
section
variable {H : Type} {enc : TypeId × Value → H} {W : World} {base : Nat} {spare : Nat → Bool} {held : Bool}
theorem open_byte {n : Nat} {c : Value} {x : DataW H × List MemPlace} (h : DataW.trod enc Try.prog W base spare held n 5 [c] = some x) : ∃ z : Nat, c = .int .u8 (z : Int) ∧ z ≤ 255 := by
  obtain ⟨z, e, _, w⟩ := DataW.trod_int Try.underlying5 h
  have : 0 ≤ z ∧ z ≤ 255 := by simpa [Lit.wf, IntKind.min, IntKind.max, IntKind.signed, IntKind.bits] using w
  obtain ⟨k, rfl⟩ := Int.eq_ofNat_of_zero_le this.1
  exact ⟨k, by simpa using e, by omega⟩
theorem open_bytes {n : Nat} {c : Value} {x : DataW H × List MemPlace} (h : DataW.trod enc Try.prog W base spare held n 22 [c] = some x) :
    ∃ a len cap, c = .slice a len cap ∧ len ≤ cap ∧ cap ≤ 9223372036854775807 ∧ BytesIn W a len := by
  rcases Go.Deep.open_slice1 Try.underlying22 drw_u8 h with ⟨hcs, _⟩ | ⟨a, len, cap, m, n', V, D, Pl, hcs, _, hl, hm, hmm, _, hi⟩
  · simp at hcs
    subst hcs
    exact ⟨none, 0, 0, rfl, by omega, by omega, fun i h => by omega⟩
  · simp at hcs
    subst hcs
    refine ⟨some a, len, cap, rfl, hl, by unfold maxLen at hm; omega, ?_⟩
    obtain ⟨b, off, sp⟩ := a
    by_cases h0 : len = 0
    · subst h0
      exact fun i h => by omega
    have hsp : sp = none := by
      have := (hi 0 (by rw [hmm]; split <;> omega)).1
      simpa [Addr.add] using World.cell?_spot this
    subst hsp
    intro i hil
    obtain ⟨hc, ht⟩ := hi i (by rw [hmm]; split <;> omega)
    obtain ⟨z, e, hz⟩ := open_byte ht
    rw [Go.WideShapes.add_plain, e] at hc
    exact ⟨b, off, z, rfl, drw_lt hc, hz, hc⟩
theorem open_drawn {b0 : Nat} {v : Value} {d : DataW H} {p : List MemPlace} (hv : Value.okWide Try.prog W .any b0 24 v) (h : DataW.Trod enc Try.prog W base spare held 24 v d p) :
    ∃ (a b : Nat) (sl : Option Addr) (k c : Nat), v = .agg #[.int .u8 (a : Int), .int .u8 (b : Int), .slice sl k c] ∧ a ≤ 255 ∧ b ≤ 255 ∧ k ≤ c ∧ c ≤ 9223372036854775807 ∧ BytesIn W sl k := by
  obtain ⟨cs, rfl, hsz⟩ := okWide_struct Try.underlying24 hv
  obtain ⟨l⟩ := cs
  match l, hsz.trans drw_cells with
  | [x0, x1, x2], _ =>
    obtain ⟨fuel, hf⟩ := h
    obtain ⟨xs, n, _, _, _, hlen, hg⟩ := DataW.trod_struct Try.underlying24 hf
    match xs, hlen with
    | [y0, y1, y2], _ =>
      have g0 : DataW.trod enc Try.prog W base spare held n 5 (List.take (Try.prog.cellsOf 5) (List.drop 0 [x0, x1, x2])) = some y0 := hg 0 _ rfl
      have g1 : DataW.trod enc Try.prog W base spare held n 5 (List.take (Try.prog.cellsOf 5) (List.drop 1 [x0, x1, x2])) = some y1 := hg 1 _ rfl
      have g2 : DataW.trod enc Try.prog W base spare held n 22 (List.take (Try.prog.cellsOf 22) (List.drop 2 [x0, x1, x2])) = some y2 := hg 2 _ rfl
      rw [drw_u8] at g0 g1
      rw [drw_u8s] at g2
      have g0 : DataW.trod enc Try.prog W base spare held n 5 [x0] = some y0 := g0
      have g1 : DataW.trod enc Try.prog W base spare held n 5 [x1] = some y1 := g1
      have g2 : DataW.trod enc Try.prog W base spare held n 22 [x2] = some y2 := g2
      obtain ⟨a, rfl, ha⟩ := open_byte g0
      obtain ⟨b, rfl, hb⟩ := open_byte g1
      obtain ⟨sl, k, c, rfl, h1, h2, h3⟩ := open_bytes g2
      exact ⟨a, b, sl, k, c, rfl, ha, hb, h1, h2, h3⟩
end
end Go.Proofs.Ytcgljmeppmdihaa
/- The statement of SpecCopies: called with any draft of events, any place and any turn the law returns true, and its arguments read as before. No condition. -/
namespace Go.Proofs.Ytcgljmeppmdihaa.specCopies
open Go.ChangeShapes Go.WideShapes Go.ChangeAt Go.RowKit
set_option linter.unusedVariables false
set_option maxRecDepth 100000
theorem own : ownKnob Try.prog.godebug = none := by kernel_rfl
theorem laidOut : laidOutB Try.prog = true := by kernel_rfl
theorem trn_cells : Try.prog.cellsOf 45 = 3 := by kernel_rfl
theorem trn_i8 : Try.prog.cellsOf 43 = 1 := by kernel_rfl
theorem open_turn {H : Type} {enc : TypeId × Value → H} {W : World} {base b0 : Nat} {spare : Nat → Bool} {held : Bool} {v : Value} {d : DataW H} {p : List MemPlace} (hv : Value.okWide Try.prog W .any b0 45 v) (h : DataW.Trod enc Try.prog W base spare held 45 v d p) :
    ∃ (a b : Nat) (c : Int), v = .agg #[.int .u8 (a : Int), .int .u8 (b : Int), .int .i8 c] := by
  obtain ⟨cs, rfl, hsz⟩ := okWide_struct Try.underlying45 hv
  obtain ⟨l⟩ := cs
  match l, hsz.trans trn_cells with
  | [x0, x1, x2], _ =>
    obtain ⟨fuel, hf⟩ := h
    obtain ⟨xs, n, _, _, _, hlen, hg⟩ := DataW.trod_struct Try.underlying45 hf
    match xs, hlen with
    | [y0, y1, y2], _ =>
      have g0 : DataW.trod enc Try.prog W base spare held n 5 (List.take (Try.prog.cellsOf 5) (List.drop 0 [x0, x1, x2])) = some y0 := hg 0 _ rfl
      have g1 : DataW.trod enc Try.prog W base spare held n 5 (List.take (Try.prog.cellsOf 5) (List.drop 1 [x0, x1, x2])) = some y1 := hg 1 _ rfl
      have g2 : DataW.trod enc Try.prog W base spare held n 43 (List.take (Try.prog.cellsOf 43) (List.drop 2 [x0, x1, x2])) = some y2 := hg 2 _ rfl
      rw [drw_u8] at g0 g1
      rw [trn_i8] at g2
      have g0 : DataW.trod enc Try.prog W base spare held n 5 [x0] = some y0 := g0
      have g1 : DataW.trod enc Try.prog W base spare held n 5 [x1] = some y1 := g1
      have g2 : DataW.trod enc Try.prog W base spare held n 43 [x2] = some y2 := g2
      obtain ⟨a, rfl, _⟩ := open_byte g0
      obtain ⟨b, rfl, _⟩ := open_byte g1
      obtain ⟨z, e, _, _⟩ := DataW.trod_int Try.underlying43 g2
      simp at e
      subst e
      exact ⟨a, b, z, rfl⟩
set_option maxRecDepth 100000 in
theorem lifted (os : Os) (started : os.Started) (H : Type) (enc : TypeId × Value → H) :
    ReturnsInHanded {} Try.checked os 4 .any (Rows.specCopiesSpec.pre6 enc Try.prog Try.f4 Rows.specCopiesRow.domain false) (Rows.specCopiesSpec.post enc Try.prog Try.f4 false true false false) := by
  refine returnsInHanded_of_change (C := Try.checked) own started (by kernel_rfl) Try.func4
    (ChangeSpec.witness6 (enc := enc) (C := Try.checked) false ⟨#[], #[.agg #[.int .u8 0, .int .u8 0, .slice none 0 0], .int .u8 0, .agg #[.int .u8 0, .int .u8 0, .int .i8 0]], []⟩ 8 (by kernel_rfl) (by kernel_rfl) (by kernel_rfl) (by kernel_rfl)) ?_
  intro W base args ds gs before hval0 hW hcnd _
  have hval : ∀ (j : Nat) t v, Try.f4.params[j]? = some t → args[j]? = some v → Value.okWide Try.prog W .any base t v := hval0
  have hW' := hW
  obtain ⟨p, q, hA0, hV, rfl, hfz, hnd⟩ := hW
  have hA : DataW.TrodAll enc Try.prog W 0 (fun _ => true) true Try.f4.params.toList args.toList ds p := hA0
  rw [Try.params4] at hA hval
  obtain ⟨v0, vs0, d0, ds0, p0, q0, hargs, rfl, rfl, h0, r0⟩ := trodAll_cons hA
  obtain ⟨v1, vs1, d1, ds1, p1, q1, rfl, rfl, rfl, h1, r1⟩ := trodAll_cons r0
  obtain ⟨v2, vs2, d2, ds2, p2, q2, rfl, rfl, rfl, h2, r2⟩ := trodAll_cons r1
  obtain ⟨rfl, rfl, rfl⟩ := trodAll_nil r2
  obtain rfl : args = #[v0, v1, v2] := by cases args; simp_all
  obtain ⟨rfl, rfl⟩ := trodVars_none hV
  have k0 := h0
  have lt0 : ∀ x ∈ p0, x.block < W.heap.size := by obtain ⟨m, hm⟩ := k0; exact DataW.trod_lt m _ _ _ hm
  have k1 := h1
  have lt1 : ∀ x ∈ p1, x.block < W.heap.size := by obtain ⟨m, hm⟩ := k1; exact DataW.trod_lt m _ _ _ hm
  have k2 := h2
  have lt2 : ∀ x ∈ p2, x.block < W.heap.size := by obtain ⟨m, hm⟩ := k2; exact DataW.trod_lt m _ _ _ hm
  obtain ⟨a, b, sl, k, c, rfl, ha, hb, hk, hc, hB⟩ := open_drawn (hval 0 24 v0 rfl rfl) h0
  obtain ⟨z1, rfl⟩ := okWide_int Try.underlying5 (hval 1 5 v1 rfl rfl)
  obtain ⟨at0, eat, hat⟩ : ∃ n : Nat, z1 = (n : Int) ∧ n ≤ 255 := by
    obtain ⟨fuel, hf⟩ := h1
    have hf2 : DataW.trod enc Try.prog W 0 (fun _ => true) true fuel 5 [.int .u8 z1] = some (d1, p1) := hf
    obtain ⟨n, e, hn⟩ := open_byte hf2
    injection e with _ e
    exact ⟨n, e, hn⟩
  subst eat
  obtain ⟨x0, x1, x2, rfl⟩ := open_turn (hval 2 45 v2 rfl rfl) h2
  clear hA0 hval0
  refine (copies12_any a b ha hb sl k c hk hc at0 hat x0 x1 x2 W hB).mono fun e W' ⟨he, bel⟩ => ?_
  subst he
  exact ⟨_, rfl, _, _, _, [], _, [], hW', trodAll_mk1 (shut_bool Try.underlying4 _), (trodAll_cons_mk (Below.trod laidOut (by kernel_rfl) (of_decide_eq_true (by kernel_rfl)) k0 bel lt0) (trodAll_cons_mk (Below.trod laidOut (by kernel_rfl) (of_decide_eq_true (by kernel_rfl)) k1 bel lt1) (trodAll_cons_mk (Below.trod laidOut (by kernel_rfl) (of_decide_eq_true (by kernel_rfl)) k2 bel lt2) trodAll_mk0))), rfl, bel.frame _, fun h => by cases h⟩
theorem over : Rows.specCopiesRow.holds Try.pinned (OpenSpec.ofChange Rows.specCopiesSpec) :=
  OpenClaim.holds_of_wide 4 Try.f4 rfl rfl rfl rfl rfl rfl rfl ⟨rfl, rfl, rfl, rfl, rfl⟩ rfl rfl rfl rfl rfl (by kernel_rfl) Try.func4 (by kernel_rfl)
    (of_decide_eq_true (by kernel_rfl)) (by unfold Func.isWrapper; first | (rw [if_pos (by decide +kernel)]; kernel_rfl) | (rw [if_neg (by decide +kernel)]; exact ⟨rfl, rfl⟩))
    (fun os started H enc _ => lifted os started H enc)
theorem proved : Rows.SpecCopiesSaid := over
end Go.Proofs.Ytcgljmeppmdihaa.specCopies
