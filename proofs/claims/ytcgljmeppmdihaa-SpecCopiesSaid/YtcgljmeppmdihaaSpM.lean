/- Package spec: the map of handlers (written by tools/gensp8.py). -/
import Derived.Test.YtcgljmeppmdihaaSpD
import Derived.Test.YtcgljmeppmdihaaSpH
import Derived.Test.YtcgljmeppmdihaaSpI
import Derived.Test.YtcgljmeppmdihaaSpL
import Derived.Maps.Own
import Derived.Maps.OwnOps
import Derived.Maps.OwnSet
import Derived.Maps.RangeWalk
namespace Go.Proofs.Ytcgljmeppmdihaa
open Go.ChangeShapes Go.WideShapes Go.ChangeAt Go.RowKit Go.Maps
set_option linter.unusedVariables false
set_option maxRecDepth 100000
set_option linter.unusedSimpArgs false
/-- an entry of a map's literal, at the operation -/
theorem wpList_insert_own {H : Type} {P : Program} (w : World) {ops : Array Oper} {rest : List Oper} {o : Oper} {a : Act} {Q : Exit → Act → World → Prop}
    (hg : o.guard = none) (m x v : Operand) (t : TypeId) (hop : o.op = Op.insert t m x v)
    (k e : TypeId) (K : Keyed P k) (ht : P.underlying t = some (.map k e)) (R : Value → Option (DataW H × List MemPlace)) (b n : Nat) (D : DataW H)
    (hm : a.eval m = .map (some b)) (hown : w.ownsMap P k R b n D) (hn : n < maxLen) (key val : Value) (kl : Lit) (hx : a.eval x = key) (hv : a.eval v = val) (hkey : keyOf P k key = some kl)
    (d : DataW H) (ps : List MemPlace) (hval : R val = some (d, ps))
    (hK : ∀ w', w'.ownsMap P k R b (n + 1) (D.put kl d) → w.grownBy w' (some b) → wpList P ops Q rest (a.put o.dst undef) w') :
    wpList P ops Q (o :: rest) a w := by
  refine wpList_plain hg fun K' hK' => ?_
  obtain ⟨w', hrun, r1, r2⟩ := hown.update K ht hn hkey hval
  unfold Oper.wp
  simp [execOp, hop, hm, hx, hv, hrun, Result.andThen]
  exact hK' _ _ (hK w' r1 r2)
/-- a method of the automaton at P, as the number of its function -/
def fnR (P : Nat) : Value → Option (DataW Unit × List MemPlace)
  | .func (.func f) fst cap =>
    match fst.toList, cap.toList with
    | [.pointer (some ⟨B, 0, none⟩)], [] => if B = P then some (.lit (.int .i64 f), []) else none
    | _, _ => none
  | .nilFunc => some (.lit (.int .i64 (-1)), [])
  | _ => none
theorem fnR_mk (f P : Nat) : fnR P (.func (.func f) #[ptrV P 0] #[]) = some (.lit (.int .i64 f), []) := by simp [fnR]
theorem fnR_inv {P f : Nat} {v : Value} {ps : List MemPlace} (h : fnR P v = some (.lit (.int .i64 f), ps)) : v = .func (.func f) #[ptrV P 0] #[] := by
  unfold fnR at h
  split at h
  · rename_i f0 fst cap
    split at h
    · rename_i B e1 e2
      split at h
      · subst_vars
        simp at h
        obtain ⟨h1, _⟩ := h
        have a1 : fst = #[ptrV B 0] := by rw [← Array.toList_inj]; exact e1
        have a2 : cap = #[] := by rw [← Array.toList_inj]; exact e2
        rw [a1, a2, show f0 = f from Int.ofNat_inj.1 h1]
      · cases h
    · cases h
  · simp at h
  · cases h
theorem lawI : Keyed Try.prog 3 := int_keyed Try.underlying3
theorem zeroF (w : World) : (zeroValue 38).run Try.prog w = .ok .nilFunc w := by kernel_rfl
def handD : DataW Unit := ((((((((((DataW.map []).put (.int .i64 0) (.lit (.int .i64 46))).put (.int .i64 1) (.lit (.int .i64 47))).put (.int .i64 2) (.lit (.int .i64 48))).put (.int .i64 3) (.lit (.int .i64 48))).put (.int .i64 4) (.lit (.int .i64 49))).put (.int .i64 5) (.lit (.int .i64 49))).put (.int .i64 6) (.lit (.int .i64 50))).put (.int .i64 7) (.lit (.int .i64 51))).put (.int .i64 8) (.lit (.int .i64 52)))
def HandMap (w : World) (b P : Nat) : Prop := w.ownsMap Try.prog 3 (fnR P) b 9 handD
set_option maxHeartbeats 2000000 in
theorem handlers_any (p : Pl) (w : World) : Calls Try.prog 37 #[spV p] w fun e w' => e = .returned (.map (some w.heap.size)) ∧ Below w.heap.size w w' ∧ HandMap w' w.heap.size p.P := by
  have hmm := @run_makeMap Try.prog
  have hmf : ∀ (fn : Fn) (first cap : Array Value) (w : World), (Instr.makeFunc fn first cap).run Try.prog w = .ok (.func fn first cap) w := fun _ _ _ _ => rfl
  have h0 := World.ownsMap_made (H := Unit) w Try.prog 3 (fnR p.P)
  go_enter Try.func37, Try.ntmps37
  go_wp2_with (first
    | (refine wpList_insert_own _ rfl _ _ _ 82 rfl 3 38 lawI Try.underlying82 (fnR p.P) w.heap.size 0 _ rfl h0 (by decide) _ _ (.int .i64 0) rfl rfl (keyOf_int_mk Try.underlying3 (by decide)) _ [] (fnR_mk 46 p.P) ?_; intro w1 h1 g1; clear h0)
    | (refine wpList_insert_own _ rfl _ _ _ 82 rfl 3 38 lawI Try.underlying82 (fnR p.P) w.heap.size 1 _ rfl h1 (by decide) _ _ (.int .i64 1) rfl rfl (keyOf_int_mk Try.underlying3 (by decide)) _ [] (fnR_mk 47 p.P) ?_; intro w2 h2 g2; clear h1)
    | (refine wpList_insert_own _ rfl _ _ _ 82 rfl 3 38 lawI Try.underlying82 (fnR p.P) w.heap.size 2 _ rfl h2 (by decide) _ _ (.int .i64 2) rfl rfl (keyOf_int_mk Try.underlying3 (by decide)) _ [] (fnR_mk 48 p.P) ?_; intro w3 h3 g3; clear h2)
    | (refine wpList_insert_own _ rfl _ _ _ 82 rfl 3 38 lawI Try.underlying82 (fnR p.P) w.heap.size 3 _ rfl h3 (by decide) _ _ (.int .i64 3) rfl rfl (keyOf_int_mk Try.underlying3 (by decide)) _ [] (fnR_mk 48 p.P) ?_; intro w4 h4 g4; clear h3)
    | (refine wpList_insert_own _ rfl _ _ _ 82 rfl 3 38 lawI Try.underlying82 (fnR p.P) w.heap.size 4 _ rfl h4 (by decide) _ _ (.int .i64 4) rfl rfl (keyOf_int_mk Try.underlying3 (by decide)) _ [] (fnR_mk 49 p.P) ?_; intro w5 h5 g5; clear h4)
    | (refine wpList_insert_own _ rfl _ _ _ 82 rfl 3 38 lawI Try.underlying82 (fnR p.P) w.heap.size 5 _ rfl h5 (by decide) _ _ (.int .i64 5) rfl rfl (keyOf_int_mk Try.underlying3 (by decide)) _ [] (fnR_mk 49 p.P) ?_; intro w6 h6 g6; clear h5)
    | (refine wpList_insert_own _ rfl _ _ _ 82 rfl 3 38 lawI Try.underlying82 (fnR p.P) w.heap.size 6 _ rfl h6 (by decide) _ _ (.int .i64 6) rfl rfl (keyOf_int_mk Try.underlying3 (by decide)) _ [] (fnR_mk 50 p.P) ?_; intro w7 h7 g7; clear h6)
    | (refine wpList_insert_own _ rfl _ _ _ 82 rfl 3 38 lawI Try.underlying82 (fnR p.P) w.heap.size 7 _ rfl h7 (by decide) _ _ (.int .i64 7) rfl rfl (keyOf_int_mk Try.underlying3 (by decide)) _ [] (fnR_mk 51 p.P) ?_; intro w8 h8 g8; clear h7)
    | (refine wpList_insert_own _ rfl _ _ _ 82 rfl 3 38 lawI Try.underlying82 (fnR p.P) w.heap.size 8 _ rfl h8 (by decide) _ _ (.int .i64 8) rfl rfl (keyOf_int_mk Try.underlying3 (by decide)) _ [] (fnR_mk 52 p.P) ?_; intro w9 h9 g9; clear h8))
  go_ret
  refine ⟨rfl, ?_, h9⟩
  have b0 : Below w.heap.size w (w.alloc (.map #[] 0)) := (Below.refl _ w).alloc (Nat.le_refl _) _
  have b1 := b0.grown g1 b0.size (fun j e => by cases e; exact Nat.le_refl _)
  have b2 := b1.grown g2 b1.size (fun j e => by cases e; exact Nat.le_refl _)
  have b3 := b2.grown g3 b2.size (fun j e => by cases e; exact Nat.le_refl _)
  have b4 := b3.grown g4 b3.size (fun j e => by cases e; exact Nat.le_refl _)
  have b5 := b4.grown g5 b4.size (fun j e => by cases e; exact Nat.le_refl _)
  have b6 := b5.grown g6 b5.size (fun j e => by cases e; exact Nat.le_refl _)
  have b7 := b6.grown g7 b6.size (fun j e => by cases e; exact Nat.le_refl _)
  have b8 := b7.grown g8 b7.size (fun j e => by cases e; exact Nat.le_refl _)
  have b9 := b8.grown g9 b8.size (fun j e => by cases e; exact Nat.le_refl _)
  exact b9
theorem HandMap.look {w : World} {b P : Nat} (h : HandMap w b P) {op : Int} (h0 : 0 ≤ op) (h9 : op < 9) {f : Nat} (hf : handD.atKey (.int .i64 op) (.lit (.int .i64 (-1))) = .lit (.int .i64 (f : Int))) :
    (Instr.lookup 82 (.map (some b)) (.int .i64 op) false).run Try.prog w = .ok (.func (.func f) #[ptrV P 0] #[]) w := by
  obtain ⟨v, ps, hrun, hv⟩ := World.ownsMap.lookup h lawI Try.underlying82 (zeroF w) (zd := .lit (.int .i64 (-1))) (zp := []) rfl (keyOf_int_mk (a := op) (q := .i64) Try.underlying3 (by simp [Lit.wf, IntKind.min, IntKind.max, IntKind.signed, IntKind.bits]; omega))
  rw [hf] at hv
  rw [hrun, fnR_inv hv]
/-- the handler of an operation, and what it does -/
theorem hand_pick {s : SS} (hwf : WF s) {t o : Nat} {x : Th} {b : Ob} (hx : s.T[t]? = some x) (hb : s.O[o]? = some b) (hxo : x.obj = (o : Int)) (hp0 : x.pr ≠ 0) (hp5 : x.pr ≠ 5) (kind idx act oth code val : Int) :
    ∃ f : Nat, handD.atKey (.int .i64 x.op) (.lit (.int .i64 (-1))) = .lit (.int .i64 (f : Int)) ∧ (∀ args w, (callFunc f args).run Try.prog w = .ok (.enter f args) w) ∧
      ∀ (W : World) (A : Nat → Prop) (p : Pl), SpecAt W A p s → Calls Try.prog f #[spV p, evV ⟨kind, (t : Int), idx, act, (o : Int), oth, code, val⟩] W (HandPost W A p s (handS s t x o b ⟨kind, (t : Int), idx, act, (o : Int), oth, code, val⟩)) := by
  have hv := hwf.th t x hx hp0 hp5
  have hr := hwf.rg t x hx
  have hin : x.pr ≠ 1 → x.pr ≠ 4 → (t : Int) ∈ b.line → True := fun _ _ _ => trivial
  unfold handS
  by_cases c0 : x.op = 0
  · rw [if_pos c0, c0]
    exact ⟨46, rfl, enters_of Try.func46 (by kernel_rfl) rfl, fun W A p h => enter_any h hx hb kind idx act oth code val⟩
  rw [if_neg c0]
  by_cases c1 : x.op = 1
  · rw [if_pos c1, c1]
    exact ⟨47, rfl, enters_of Try.func47 (by kernel_rfl) rfl, fun W A p h => exit_any h hx hb kind idx act oth code val⟩
  rw [if_neg c1]
  by_cases c2 : x.op = 2 ∨ x.op = 3
  · rw [if_pos c2]
    refine ⟨48, by rcases c2 with e | e <;> rw [e] <;> rfl, enters_of Try.func48 (by kernel_rfl) rfl, fun W A p h => wait_any h hwf hx hb kind idx act oth code val hxo (fun h1 h4 => ?_)⟩
    exact hwf.inl hx hb hxo (by omega)
  rw [if_neg c2]
  by_cases c4 : x.op = 4 ∨ x.op = 5
  · rw [if_pos c4]
    refine ⟨49, by rcases c4 with e | e <;> rw [e] <;> rfl, enters_of Try.func49 (by kernel_rfl) rfl, fun W A p h => notify_any h hwf hx hb kind idx act oth code val (fun e => by omega)⟩
  rw [if_neg c4]
  by_cases c6 : x.op = 6
  · rw [if_pos c6, c6]
    exact ⟨50, rfl, enters_of Try.func50 (by kernel_rfl) rfl, fun W A p h => interrupt_any h hx hb kind idx act oth code val (hv.2.2.2.2 c6)⟩
  rw [if_neg c6]
  by_cases c7 : x.op = 7
  · rw [if_pos c7, c7]
    exact ⟨51, rfl, enters_of Try.func51 (by kernel_rfl) rfl, fun W A p h => look_any h hx hb kind idx act oth code val⟩
  rw [if_neg c7]
  have c8 : x.op = 8 := by omega
  rw [c8]
  exact ⟨52, rfl, enters_of Try.func52 (by kernel_rfl) rfl, fun W A p h => deflate_any h hx hb kind idx act oth code val⟩
end Go.Proofs.Ytcgljmeppmdihaa
