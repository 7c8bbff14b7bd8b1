/- Contracts of package permit, for one goroutine alone: Give, Take, Block (of a thread that has a permit, or that there is not). -/
import Derived.Test.YtldofbkjjmnooaaGreatMgQTLC
import Derived.Test.YtldofbkjjmnooaaGreatMgQTLB
namespace Go.Proofs.YtldofbkjjmnooaaGreat
open Go.ChangeShapes Go.WideShapes Go.ChangeAt Go.RowKit Go.Conc
set_option linter.unusedVariables false
set_option maxRecDepth 100000
set_option linter.unusedSimpArgs false
/-- a call, by its contract, within the machine of one -/
theorem LoneTo.call {P : Program} {Q : Goroutine → World → Prop} {R : Ending → World → Prop} {b : Frame} {a : Act} {k : List Item} {cs : List Frame} {w : World} {ops : Array Oper} {i : Nat} {rest : List Nat} {o : Oper} {f : FuncId} {fn : Func} {args : Array Operand} {ats : Array TypeId} {vs : Array Value}
    (ho : ops[i]? = some o) (hw : Region.wanted o (yielded ops a.tmps) = true) (hk : b.kind ≠ .early) (hop : o.op = .call { callee := .value (.func f), args, argTypes := ats })
    (hf : P.funcs[f]? = some fn) (hname : (fn.name == "runtime.NumGoroutine") = false) (hb : fn.body.isNone = false) (hv : args.map a.eval = vs) (h : Calls P f vs w R)
    (hR : ∀ e w', R e w' → ∃ v, e = .returned v ∧ LoneTo P Q (G (b.at (a.put ((ops[i]?).bind (·.dst)) v) (.inRegion ops rest :: k)) cs) w') :
    LoneTo P Q (G (b.at a (.inRegion ops (i :: rest) :: k)) cs) w := by
  subst hv
  obtain ⟨e, w', fr', hR', hc, hf', hl⟩ := h (b.at a (.inRegion ops (i :: rest) :: k) :: cs)
  obtain ⟨v, rfl, g, w2, hs, hq⟩ := hR e w' hR'
  refine ⟨g, w2, Steps.head (step_solo_go rfl (stepG_enter ho hw hk (run_call_body hop hf hname hb))) (Steps.trans hc (Steps.head (step_leave_returned hl) ?_)), hq⟩
  rw [Frame.finish_at]
  exact hs
theorem set_same {l : List Bool} {t : Nat} {b : Bool} (h : l[t]? = some b) : l.set t b = l := by
  apply List.ext_getElem?
  intro i
  by_cases e : t = i
  · subst e
    rw [List.getElem?_set_self (List.getElem?_eq_some_iff.1 h).1, h]
  · rw [List.getElem?_set_ne e]
theorem chan_for {w : World} {P S : Nat} {cs : List Nat} {l : List Bool} {t : Nat} {b : Bool} (hP : PermitsAt w P S cs l) (hb : l[t]? = some b) : ∃ c, cs[t]? = some c := by
  have := hP.len
  have h2 := (List.getElem?_eq_some_iff.1 hb).1
  exact ⟨cs[t]'(by omega), by simp⟩
set_option maxRecDepth 100000 in
theorem give_any (P S : Nat) (cs : List Nat) (l : List Bool) (t : Nat) (b : Bool) (w : World) (hP : PermitsAt w P S cs l) (hb : l[t]? = some b) :
    Calls Tryz.prog 60 #[permitsV P, .int .i64 t] w fun e w' => e = .returned (.bool true) ∧ PermitsAt w' P S cs (l.set t true) ∧ Keep (fun k => k ∈ cs) w w' := by
  obtain ⟨c, hc⟩ := chan_for hP hb
  have ho := of_any P S cs l t c w hP hc
  obtain ⟨s, r, hch⟩ := hP.chan t c b hc hb
  refine calls_of_loneTo fun cs' => ?_
  have e : Frame.enter Tryz.prog 60 #[permitsV P, .int .i64 t] .normal = (base 60).at ⟨#[permitsV P, .int .i64 t] ++ Array.replicate (Tryz.f60.ntmps - 2) undef, []⟩ [.code (Tryz.f60.body.getD .skip)] := by
    rw [enter_at _ Tryz.func60 rfl]; rfl
  rw [e]
  refine LoneTo.goes (n := 60) ?_
  simp only [Tryz.f60, Option.getD_some]
  walk_nrm
  repeat (first | s_c stepG_seq | s_c stepG_region_end | s_c stepG_skip | s_c stepG_block | s_c stepG_inBlock | s_reg | s_op)
  s_stop
  refine LoneTo.call (f := 145) (fn := Tryz.f145) rfl rfl (by decide) rfl Tryz.func145 (by kernel_rfl) (by kernel_rfl) ?_ ho ?_
  · walk_nrm
  rintro e1 w1 ⟨rfl, rfl⟩
  refine ⟨_, rfl, ?_⟩
  walk_nrm
  refine LoneTo.goes (n := 60) ?_
  repeat (first | s_c stepG_seq | s_c stepG_region_end | s_c stepG_skip | s_c stepG_block | s_c stepG_inBlock | s_reg | s_op)
  s_cond false
  repeat (first | s_c stepG_seq | s_c stepG_region_end | s_c stepG_skip | s_c stepG_block | s_c stepG_inBlock | s_reg | s_op)
  s_stop
  have hcomm : (execOp (Act.eval ⟨#[permitsV P, .int .i64 t, undef, undef, .bool false, .chan (some c), permitsV P, .int .i64 t, .chan (some c), .chan (some c), .bool false, .chan (some c), .agg #[], undef, undef, undef], []⟩)
      { dst := some 13, op := Op.select #[{ chan := Operand.tmp 11, send := some (Operand.tmp 12), elem := 68 }] false, type := 0, pos := "permit.go:49", after := #[], guard := none }).run Tryz.prog w = .ok (.comm #[scase c tokV tokV] false .select) w := by
    simp [go_sem, execOp, scase, Act.eval]
  cases b
  · refine LoneTo.step (step_lone_select_send_room (c := c) (cap := 1) (buf := #[]) (s := s) (r := r) (tm := false) (stepG_comm rfl rfl (by decide) hcomm) hch (by simp)) ?_
    rw [Frame.finish_at]
    walk_nrm
    refine LoneTo.goes (n := 60) ?_
    repeat (first | s_c stepG_seq | s_c stepG_region_end | s_c stepG_skip | s_c stepG_block | s_c stepG_inBlock | s_reg | s_op)
    s_cond true
    repeat (first | s_c stepG_seq | s_c stepG_region_end | s_c stepG_skip | s_c stepG_block | s_c stepG_inBlock | s_reg | s_op)
    s_c stepG_ret'
    s_stop
    refine LoneTo.done ⟨.returned (.bool true), _, rfl, ⟨rfl, ?_⟩, rfl, rfl, rfl, rfl, _, Tryz.func60, by simp [results, Tryz.results60, Frame.at]⟩
    exact hP.setChan hc true (s + 1) r
  · refine LoneTo.step (step_lone_select_send_full (c := c) (cap := 1) (buf := #[tokV]) (s := s) (r := r) (tm := false) (stepG_comm rfl rfl (by decide) hcomm) hch (by simp)) ?_
    rw [Frame.finish_at]
    walk_nrm
    refine LoneTo.goes (n := 60) ?_
    repeat (first | s_c stepG_seq | s_c stepG_region_end | s_c stepG_skip | s_c stepG_block | s_c stepG_inBlock | s_reg | s_op)
    s_cond false
    repeat (first | s_c stepG_seq | s_c stepG_region_end | s_c stepG_skip | s_c stepG_block | s_c stepG_inBlock | s_reg | s_op)
    s_c stepG_ret'
    s_stop
    refine LoneTo.done ⟨.returned (.bool true), _, rfl, ⟨rfl, ?_⟩, rfl, rfl, rfl, rfl, _, Tryz.func60, by simp [results, Tryz.results60, Frame.at]⟩
    exact ⟨by rwa [set_same hb], Keep.refl _ w⟩
theorem give_no (P S : Nat) (cs : List Nat) (l : List Bool) (t : Int) (w : World) (hP : PermitsAt w P S cs l) (ht : t < 0 ∨ (l.length : Int) ≤ t) :
    Calls Tryz.prog 60 #[permitsV P, .int .i64 t] w fun e w' => e = .returned (.bool false) ∧ w = w' := by
  have ho := pof_no P S cs l t w hP ht
  have hcn : ∀ W : World, (binOp .eql 201 (.chan none) (.chan none)).run Tryz.prog W = .ok (.bool true) W := by intro W; kernel_rfl
  go_enter Tryz.func60, Tryz.ntmps60
  go_wp2_with (go_at_call 145; (with_reducible refine ho.mono ?_); rintro e w1 ⟨rfl, rfl⟩)
  go_ret
  exact ⟨rfl, rfl⟩
theorem give_nil (t : Int) (w : World) :
    Calls Tryz.prog 60 #[.pointer none, .int .i64 t] w fun e w' => e = .returned (.bool false) ∧ w = w' := by
  have ho := of_nil t w
  have hcn : ∀ W : World, (binOp .eql 201 (.chan none) (.chan none)).run Tryz.prog W = .ok (.bool true) W := by intro W; kernel_rfl
  go_enter Tryz.func60, Tryz.ntmps60
  go_wp2_with (go_at_call 145; (with_reducible refine ho.mono ?_); rintro e w1 ⟨rfl, rfl⟩)
  go_ret
  exact ⟨rfl, rfl⟩
set_option maxRecDepth 100000 in
theorem take_any (P S : Nat) (cs : List Nat) (l : List Bool) (t : Nat) (b : Bool) (w : World) (hP : PermitsAt w P S cs l) (hb : l[t]? = some b) :
    Calls Tryz.prog 279 #[permitsV P, .int .i64 t] w fun e w' => e = .returned (.bool b) ∧ PermitsAt w' P S cs (l.set t false) ∧ Keep (fun k => k ∈ cs) w w' := by
  obtain ⟨c, hc⟩ := chan_for hP hb
  have ho := of_any P S cs l t c w hP hc
  obtain ⟨s, r, hch⟩ := hP.chan t c b hc hb
  refine calls_of_loneTo fun cs' => ?_
  have e : Frame.enter Tryz.prog 279 #[permitsV P, .int .i64 t] .normal = (base 279).at ⟨#[permitsV P, .int .i64 t] ++ Array.replicate (Tryz.f279.ntmps - 2) undef, []⟩ [.code (Tryz.f279.body.getD .skip)] := by
    rw [enter_at _ Tryz.func279 rfl]; rfl
  rw [e]
  refine LoneTo.goes (n := 60) ?_
  simp only [Tryz.f279, Option.getD_some]
  walk_nrm
  repeat (first | s_c stepG_seq | s_c stepG_region_end | s_c stepG_skip | s_c stepG_block | s_c stepG_inBlock | s_reg | s_op)
  s_stop
  refine LoneTo.call (f := 145) (fn := Tryz.f145) rfl rfl (by decide) rfl Tryz.func145 (by kernel_rfl) (by kernel_rfl) ?_ ho ?_
  · walk_nrm
  rintro e1 w1 ⟨rfl, rfl⟩
  refine ⟨_, rfl, ?_⟩
  walk_nrm
  refine LoneTo.goes (n := 60) ?_
  repeat (first | s_c stepG_seq | s_c stepG_region_end | s_c stepG_skip | s_c stepG_block | s_c stepG_inBlock | s_reg | s_op)
  s_stop
  have hcomm : (execOp (Act.eval ⟨#[permitsV P, .int .i64 t, undef, undef, .bool false, permitsV P, .int .i64 t, .chan (some c), undef, undef, undef], []⟩)
      { dst := some 8, op := Op.select #[{ chan := Operand.tmp 7, send := none, elem := 68 }] false, type := 0, pos := "permit.go:59", after := #[], guard := none }).run Tryz.prog w = .ok (.comm #[rcase c tokV] false .select) w := by
    simp [go_sem, execOp, rcase, rcaseNil, Act.eval]
  cases b
  · refine LoneTo.step (step_lone_select_default (c := c) (cap := 1) (s := s) (r := r) (tm := false) (stepG_comm rfl rfl (by decide) hcomm) hch) ?_
    rw [Frame.finish_at]
    walk_nrm
    refine LoneTo.goes (n := 60) ?_
    repeat (first | s_c stepG_seq | s_c stepG_region_end | s_c stepG_skip | s_c stepG_block | s_c stepG_inBlock | s_reg | s_op)
    s_cond false
    repeat (first | s_c stepG_seq | s_c stepG_region_end | s_c stepG_skip | s_c stepG_block | s_c stepG_inBlock | s_reg | s_op)
    s_c stepG_ret'
    s_stop
    refine LoneTo.done ⟨.returned (.bool false), _, rfl, ⟨rfl, ?_⟩, rfl, rfl, rfl, rfl, _, Tryz.func279, by simp [results, Tryz.results279, Frame.at]⟩
    exact ⟨by rwa [set_same hb], Keep.refl _ w⟩
  · refine LoneTo.step (step_lone_select_recv_buf (c := c) (cap := 1) (buf := #[tokV]) (s := s) (r := r) (tm := false) (stepG_comm rfl rfl (by decide) hcomm) hch (by simp)) ?_
    rw [Frame.finish_at]
    walk_nrm
    refine LoneTo.goes (n := 60) ?_
    repeat (first | s_c stepG_seq | s_c stepG_region_end | s_c stepG_skip | s_c stepG_block | s_c stepG_inBlock | s_reg | s_op)
    s_cond true
    repeat (first | s_c stepG_seq | s_c stepG_region_end | s_c stepG_skip | s_c stepG_block | s_c stepG_inBlock | s_reg | s_op)
    s_c stepG_ret'
    s_stop
    refine LoneTo.done ⟨.returned (.bool true), _, rfl, ⟨rfl, ?_⟩, rfl, rfl, rfl, rfl, _, Tryz.func279, by simp [results, Tryz.results279, Frame.at]⟩
    exact hP.setChan hc false s (r + 1)
set_option maxRecDepth 100000 in
theorem take_no (P S : Nat) (cs : List Nat) (l : List Bool) (t : Int) (w : World) (hP : PermitsAt w P S cs l) (ht : t < 0 ∨ (l.length : Int) ≤ t) :
    Calls Tryz.prog 279 #[permitsV P, .int .i64 t] w fun e w' => e = .returned (.bool false) ∧ w = w' := by
  have ho := pof_no P S cs l t w hP ht
  refine calls_of_loneTo fun cs' => ?_
  have e : Frame.enter Tryz.prog 279 #[permitsV P, .int .i64 t] .normal = (base 279).at ⟨#[permitsV P, .int .i64 t] ++ Array.replicate (Tryz.f279.ntmps - 2) undef, []⟩ [.code (Tryz.f279.body.getD .skip)] := by
    rw [enter_at _ Tryz.func279 rfl]; rfl
  rw [e]
  refine LoneTo.goes (n := 60) ?_
  simp only [Tryz.f279, Option.getD_some]
  walk_nrm
  repeat (first | s_c stepG_seq | s_c stepG_region_end | s_c stepG_skip | s_c stepG_block | s_c stepG_inBlock | s_reg | s_op)
  s_stop
  refine LoneTo.call (f := 145) (fn := Tryz.f145) rfl rfl (by decide) rfl Tryz.func145 (by kernel_rfl) (by kernel_rfl) ?_ ho ?_
  · walk_nrm
  rintro e1 w1 ⟨rfl, rfl⟩
  refine ⟨_, rfl, ?_⟩
  walk_nrm
  refine LoneTo.goes (n := 60) ?_
  repeat (first | s_c stepG_seq | s_c stepG_region_end | s_c stepG_skip | s_c stepG_block | s_c stepG_inBlock | s_reg | s_op)
  s_stop
  have hcomm : (execOp (Act.eval ⟨#[permitsV P, .int .i64 t, undef, undef, .bool false, permitsV P, .int .i64 t, .chan none, undef, undef, undef], []⟩)
      { dst := some 8, op := Op.select #[{ chan := Operand.tmp 7, send := none, elem := 68 }] false, type := 0, pos := "permit.go:59", after := #[], guard := none }).run Tryz.prog w = .ok (.comm #[rcaseNil tokV] false .select) w := by
    simp [go_sem, execOp, rcase, rcaseNil, Act.eval]
  refine LoneTo.step (step_lone_select_recv_nil (stepG_comm rfl rfl (by decide) hcomm)) ?_
  rw [Frame.finish_at]
  walk_nrm
  refine LoneTo.goes (n := 60) ?_
  repeat (first | s_c stepG_seq | s_c stepG_region_end | s_c stepG_skip | s_c stepG_block | s_c stepG_inBlock | s_reg | s_op)
  s_cond false
  repeat (first | s_c stepG_seq | s_c stepG_region_end | s_c stepG_skip | s_c stepG_block | s_c stepG_inBlock | s_reg | s_op)
  s_c stepG_ret'
  s_stop
  refine LoneTo.done ⟨.returned (.bool false), _, rfl, ⟨rfl, ?_⟩, rfl, rfl, rfl, rfl, _, Tryz.func279, by simp [results, Tryz.results279, Frame.at]⟩
  rfl
set_option maxRecDepth 100000 in
theorem take_nil (t : Int) (w : World) :
    Calls Tryz.prog 279 #[.pointer none, .int .i64 t] w fun e w' => e = .returned (.bool false) ∧ w = w' := by
  have ho := of_nil t w
  refine calls_of_loneTo fun cs' => ?_
  have e : Frame.enter Tryz.prog 279 #[.pointer none, .int .i64 t] .normal = (base 279).at ⟨#[.pointer none, .int .i64 t] ++ Array.replicate (Tryz.f279.ntmps - 2) undef, []⟩ [.code (Tryz.f279.body.getD .skip)] := by
    rw [enter_at _ Tryz.func279 rfl]; rfl
  rw [e]
  refine LoneTo.goes (n := 60) ?_
  simp only [Tryz.f279, Option.getD_some]
  walk_nrm
  repeat (first | s_c stepG_seq | s_c stepG_region_end | s_c stepG_skip | s_c stepG_block | s_c stepG_inBlock | s_reg | s_op)
  s_stop
  refine LoneTo.call (f := 145) (fn := Tryz.f145) rfl rfl (by decide) rfl Tryz.func145 (by kernel_rfl) (by kernel_rfl) ?_ ho ?_
  · walk_nrm
  rintro e1 w1 ⟨rfl, rfl⟩
  refine ⟨_, rfl, ?_⟩
  walk_nrm
  refine LoneTo.goes (n := 60) ?_
  repeat (first | s_c stepG_seq | s_c stepG_region_end | s_c stepG_skip | s_c stepG_block | s_c stepG_inBlock | s_reg | s_op)
  s_stop
  have hcomm : (execOp (Act.eval ⟨#[.pointer none, .int .i64 t, undef, undef, .bool false, .pointer none, .int .i64 t, .chan none, undef, undef, undef], []⟩)
      { dst := some 8, op := Op.select #[{ chan := Operand.tmp 7, send := none, elem := 68 }] false, type := 0, pos := "permit.go:59", after := #[], guard := none }).run Tryz.prog w = .ok (.comm #[rcaseNil tokV] false .select) w := by
    simp [go_sem, execOp, rcase, rcaseNil, Act.eval]
  refine LoneTo.step (step_lone_select_recv_nil (stepG_comm rfl rfl (by decide) hcomm)) ?_
  rw [Frame.finish_at]
  walk_nrm
  refine LoneTo.goes (n := 60) ?_
  repeat (first | s_c stepG_seq | s_c stepG_region_end | s_c stepG_skip | s_c stepG_block | s_c stepG_inBlock | s_reg | s_op)
  s_cond false
  repeat (first | s_c stepG_seq | s_c stepG_region_end | s_c stepG_skip | s_c stepG_block | s_c stepG_inBlock | s_reg | s_op)
  s_c stepG_ret'
  s_stop
  refine LoneTo.done ⟨.returned (.bool false), _, rfl, ⟨rfl, ?_⟩, rfl, rfl, rfl, rfl, _, Tryz.func279, by simp [results, Tryz.results279, Frame.at]⟩
  rfl
end Go.Proofs.YtldofbkjjmnooaaGreat
/- Package task: what a task is in memory: its operation at hand, and the list of what follows. -/
namespace Go.Proofs.YtldofbkjjmnooaaGreat
open Go.ChangeShapes Go.WideShapes Go.ChangeAt Go.RowKit
set_option linter.unusedVariables false
set_option maxRecDepth 100000
set_option linter.unusedSimpArgs false
/-- going on past values -/
structure Equiv6 (s r : List Itm) (v : Int) : Prop where
  fresh : Fresh r
  on : ∀ x, (onS s x).1 = r ∧ (r = [] → (onS s x).2 = v)
theorem onS_append (s r : List Itm) (v : Int) : onS (s ++ r) v = if (onS s v).1 = [] then onS r (onS s v).2 else ((onS s v).1 ++ r, (onS s v).2) := by
  induction s generalizing v with
  | nil => simp [onS]
  | cons x s ih =>
    by_cases h : x.kind = 7
    · rw [List.cons_append, onS_ready h, onS_ready h]; exact ih _
    · rw [List.cons_append, onS_other h, onS_other h]; simp
theorem Fresh.append {r s : List Itm} (h : Fresh r) (hn : r ≠ []) : Fresh (r ++ s) := by
  cases r with
  | nil => exact absurd rfl hn
  | cons x r => simpa [Fresh] using h
theorem Equiv6.ne {s r : List Itm} {v : Int} (h : Equiv6 s r v) : s ≠ [] := by
  rintro rfl
  have h0 := h.on (v + 1)
  have h1 := h0.1
  simp only [onS] at h1 h0
  have := h0.2 h1.symm
  omega
/-- a closure's own work, as an item's -/
def CloAt (w : World) (C : Nat) (Q : Nat → Prop) (x : Itm) (F : Nat) (caps : Array Value) : Prop :=
  ∃ bc bi, Q bc ∧ Q bi ∧ Blk w bc 26 #[cellsV C] ∧ Blk w bi 3 #[.int .i64 x.at'] ∧
    ((x.kind = 0 ∧ F = 277 ∧ caps = #[pV bc, pV bi]) ∨
     (x.kind = 1 ∧ F = 269 ∧ ∃ bv, caps = #[pV bc, pV bi, pV bv] ∧ Q bv ∧ Blk w bv 47 #[.int .u64 x.a]) ∨
     ((x.kind = 2 ∨ x.kind = 4) ∧ F = 288 ∧ ∃ bo bn, caps = #[pV bc, pV bi, pV bo, pV bn] ∧ Q bo ∧ Q bn ∧ Blk w bo 47 #[.int .u64 x.a] ∧ Blk w bn 47 #[.int .u64 x.b]) ∨
     (x.kind = 3 ∧ False ∧ ∃ bv, caps = #[pV bc, pV bi, pV bv] ∧ Q bv ∧ Blk w bv 47 #[.int .u64 x.a]))
theorem CloAt.keep {w w1 : World} {C : Nat} {Q Q' F : Nat → Prop} {x : Itm} {G : Nat} {caps : Array Value} (h : CloAt w C Q x G caps) (hk : Keep F w w1) (hd : ∀ b, Q b → ¬ F b) (hq : ∀ b, b < w.heap.size → Q b → Q' b) : CloAt w1 C Q' x G caps := by
  obtain ⟨bc, bi, h1, h2, h3, h4, h⟩ := h
  refine ⟨bc, bi, hq _ h3.lt h1, hq _ h4.lt h2, h3.keep hk (hd _ h1), h4.keep hk (hd _ h2), ?_⟩
  rcases h with h | ⟨a, b, bv, c, d, e⟩ | ⟨a, b, bo, bn, c, d, e, f, g⟩ | ⟨a, b, bv, c, d, e⟩
  · exact .inl h
  · exact .inr (.inl ⟨a, b, bv, c, hq _ e.lt d, e.keep hk (hd _ d)⟩)
  · exact .inr (.inr (.inl ⟨a, b, bo, bn, c, hq _ f.lt d, hq _ g.lt e, f.keep hk (hd _ d), g.keep hk (hd _ e)⟩))
  · exact .inr (.inr (.inr ⟨a, b, bv, c, hq _ e.lt d, e.keep hk (hd _ d)⟩))
/-- the body of a spin's loop -/
def SpinB (w : World) (C : Nat) (Q : Nat → Prop) (x : Itm) (body : Value) : Prop :=
  ∃ bc bi bo bn, body = cloV 216 #[pV bc, pV bi, pV bo, pV bn] ∧ Q bc ∧ Q bi ∧ Q bo ∧ Q bn ∧ Blk w bc 26 #[cellsV C] ∧ Blk w bi 3 #[.int .i64 x.at'] ∧ Blk w bo 47 #[.int .u64 x.a] ∧ Blk w bn 47 #[.int .u64 x.b]
theorem SpinB.keep {w w1 : World} {C : Nat} {Q Q' F : Nat → Prop} {x : Itm} {body : Value} (h : SpinB w C Q x body) (hk : Keep F w w1) (hd : ∀ b, Q b → ¬ F b) (hq : ∀ b, b < w.heap.size → Q b → Q' b) : SpinB w1 C Q' x body := by
  obtain ⟨bc, bi, bo, bn, e, h1, h2, h3, h4, b1, b2, b3, b4⟩ := h
  exact ⟨bc, bi, bo, bn, e, hq _ b1.lt h1, hq _ b2.lt h2, hq _ b3.lt h3, hq _ b4.lt h4, b1.keep hk (hd _ h1), b2.keep hk (hd _ h2), b3.keep hk (hd _ h3), b4.keep hk (hd _ h4)⟩
/-- what follows an operation of a spin -/
def Link3 (w : World) (Q : Nat → Prop) (f : Nat) : Prop := Q f ∧ Blk w f 89 #[cloV 218 #[]]
def Link2 (w : World) (C : Nat) (Q : Nat → Prop) (x : Itm) (f : Nat) : Prop := Q f ∧ ∃ bb body, Blk w f 89 #[cloV 274 #[pV bb]] ∧ Q bb ∧ Blk w bb 155 #[body] ∧ SpinB w C Q x body
theorem Link3.keep {w w1 : World} {Q Q' F : Nat → Prop} {f : Nat} (h : Link3 w Q f) (hk : Keep F w w1) (hd : ∀ b, Q b → ¬ F b) (hq : ∀ b, b < w.heap.size → Q b → Q' b) : Link3 w1 Q' f := ⟨hq _ h.2.lt h.1, h.2.keep hk (hd _ h.1)⟩
theorem Link2.keep {w w1 : World} {C : Nat} {Q Q' F : Nat → Prop} {x : Itm} {f : Nat} (h : Link2 w C Q x f) (hk : Keep F w w1) (hd : ∀ b, Q b → ¬ F b) (hq : ∀ b, b < w.heap.size → Q b → Q' b) : Link2 w1 C Q' x f := by
  obtain ⟨h1, bb, body, h2, h3, h4, h5⟩ := h
  exact ⟨hq _ h2.lt h1, bb, body, h2.keep hk (hd _ h1), hq _ h4.lt h3, h4.keep hk (hd _ h3), h5.keep hk hd hq⟩
/-- the operation at hand of a task: 'do', 'park', and what follows of its own -/
def OpAt (w : World) (C P : Nat) (Q : Nat → Prop) (x : Itm) (d p : Value) (gs : List Nat) : Prop :=
  ((∃ b F caps, d = cloV 260 #[pV b] ∧ p = .pointer none ∧ Q b ∧ Blk w b 28 #[cloV F caps] ∧ CloAt w C Q x F caps) ∧ ((x.kind ≠ 4 ∧ gs = []) ∨ (x.kind = 4 ∧ ∃ k3 k2, gs = [k3, k2] ∧ Link3 w Q k3 ∧ Link2 w C Q x k2))) ∨
  ((x.kind = 5 ∨ x.kind = 6) ∧ d = .nilFunc ∧ gs = [] ∧ ∃ pb, p = pV pb ∧ Q pb ∧ Blk w pb 265 #[pV P, .int .i64 x.at', .bool (x.kind == 6)])
theorem OpAt.keep {w w1 : World} {C P : Nat} {Q Q' F : Nat → Prop} {x : Itm} {d p : Value} {gs : List Nat} (h : OpAt w C P Q x d p gs) (hk : Keep F w w1) (hd : ∀ b, Q b → ¬ F b) (hq : ∀ b, b < w.heap.size → Q b → Q' b) : OpAt w1 C P Q' x d p gs := by
  rcases h with ⟨⟨b, G, caps, e1, e2, h1, h2, h3⟩, h4⟩ | ⟨e1, e2, e3, pb, e4, h1, h2⟩
  · refine .inl ⟨⟨b, G, caps, e1, e2, hq _ h2.lt h1, h2.keep hk (hd _ h1), h3.keep hk hd hq⟩, ?_⟩
    rcases h4 with h4 | ⟨h4, k3, k2, e3, l3, l2⟩
    · exact .inl h4
    · exact .inr ⟨h4, k3, k2, e3, l3.keep hk hd hq, l2.keep hk hd hq⟩
  · exact .inr ⟨e1, e2, e3, pb, e4, hq _ h2.lt h1, h2.keep hk (hd _ h1)⟩
theorem OpAt.kind {w : World} {C P : Nat} {Q : Nat → Prop} {x : Itm} {d p : Value} {gs : List Nat} (h : OpAt w C P Q x d p gs) : x.kind < 7 := by
  rcases h with ⟨⟨b, G, caps, e1, e2, h1, h2, bc, bi, _, _, _, _, h3⟩, h4⟩ | ⟨e1, e2, e3, pb, e4, h1, h2⟩
  · rcases h3 with ⟨h3, _⟩ | ⟨h3, _⟩ | ⟨h3, _⟩ | ⟨h3, _⟩ <;> omega
  · omega
/-- continuations, one behind the other -/
def Conts (K : Nat → List Itm → Prop) : List Nat → List Itm → Prop
  | [], r => r = []
  | f :: fs, r => ∃ s r2, K f s ∧ Conts K fs r2 ∧ r = s ++ r2
theorem Conts.mono {K K' : Nat → List Itm → Prop} (h : ∀ f s, K f s → K' f s) : ∀ (fs : List Nat) (r : List Itm), Conts K fs r → Conts K' fs r
  | [], r, e => e
  | f :: fs, r, ⟨s, r2, h1, h2, e⟩ => ⟨s, r2, h f s h1, Conts.mono h fs r2 h2, e⟩
theorem Conts.append {K : Nat → List Itm → Prop} : ∀ (fs gs : List Nat) (r s : List Itm), Conts K fs r → Conts K gs s → Conts K (fs ++ gs) (r ++ s)
  | [], gs, r, s, e, h => by simp only [Conts] at e; subst e; simpa using h
  | f :: fs, gs, r, s, ⟨s1, r2, h1, h2, e⟩, h => ⟨s1, r2 ++ s, h1, Conts.append fs gs r2 s h2 h, by rw [e, List.append_assoc]⟩
def Shape (K : Nat → List Itm → Prop) (w : World) (C P : Nat) (Q : Nat → Prop) (d p rest : Value) (val : Int) (r : List Itm) (v : Int) : Prop :=
  match r with
  | [] => d = .nilFunc ∧ p = .pointer none ∧ rest = .pointer none ∧ val = v
  | x :: r' => val = 0 ∧ ∃ gs fs, TreeO w Q rest (gs ++ fs) ∧ OpAt w C P Q x d p gs ∧ Conts K fs r'
/-- the task at block t: what is left of it, and its value when nothing is -/
def TaskIn (K : Nat → List Itm → Prop) (w : World) (C P : Nat) (Q : Nat → Prop) (t : Nat) (r : List Itm) (v : Int) : Prop :=
  ∃ d p rest val, Blk w t 161 #[d, p, rest, .int .i64 val] ∧ Shape K w C P Q d p rest val r v
theorem Shape.keep {K K' : Nat → List Itm → Prop} {w w1 : World} {C P : Nat} {Q Q' F : Nat → Prop} {d p rest : Value} {val : Int} {r : List Itm} {v : Int} (h : Shape K w C P Q d p rest val r v) (hK : ∀ f s, K f s → K' f s) (hk : Keep F w w1) (hd : ∀ b, Q b → ¬ F b) (hq : ∀ b, b < w.heap.size → Q b → Q' b) : Shape K' w1 C P Q' d p rest val r v := by
  cases r with
  | nil => exact h
  | cons x r =>
    obtain ⟨e, gs, fs, h1, h2, h3⟩ := h
    refine ⟨e, gs, fs, ?_, h2.keep hk hd hq, Conts.mono hK _ _ h3⟩
    exact ((h1.mono (Q' := fun b => Q b ∧ Q' b) fun b hb h => ⟨h, hq b hb h⟩).keep hk fun b h => hd b h.1).mono fun b _ h => h.2
theorem TaskIn.keep {K K' : Nat → List Itm → Prop} {w w1 : World} {C P : Nat} {Q Q' F : Nat → Prop} {t : Nat} {r : List Itm} {v : Int} (h : TaskIn K w C P Q t r v) (hK : ∀ f s, K f s → K' f s) (hk : Keep F w w1) (hd : ∀ b, Q b → ¬ F b) (ht : ¬ F t) (hq : ∀ b, b < w.heap.size → Q b → Q' b) : TaskIn K' w1 C P Q' t r v := by
  obtain ⟨d, p, rest, val, h1, h2⟩ := h
  exact ⟨d, p, rest, val, h1.keep hk ht, h2.keep hK hk hd hq⟩
theorem TaskIn.fresh {K : Nat → List Itm → Prop} {w : World} {C P : Nat} {Q : Nat → Prop} {t : Nat} {r : List Itm} {v : Int} (h : TaskIn K w C P Q t r v) : Fresh r := by
  obtain ⟨d, p, rest, val, h1, h2⟩ := h
  cases r with
  | nil => simp [Fresh]
  | cons x r =>
    obtain ⟨_, gs, fs, _, h3, _⟩ := h2
    have := h3.kind
    simp [Fresh]; omega
theorem TaskIn.value {K : Nat → List Itm → Prop} {w : World} {C P : Nat} {Q : Nat → Prop} {t : Nat} {r : List Itm} {v : Int} (h : TaskIn K w C P Q t r v) (u : Int) (hu : r = [] → u = v) : TaskIn K w C P Q t r u := by
  obtain ⟨d, p, rest, val, h1, h2⟩ := h
  cases r with
  | nil => obtain ⟨a, b, c, e⟩ := h2; exact ⟨d, p, rest, val, h1, a, b, c, by rw [e, hu rfl]⟩
  | cons x r => exact ⟨d, p, rest, val, h1, h2⟩
/-- a task in a list of tasks, or none -/
def Elem (K : Nat → List Itm → Prop) (w : World) (C P : Nat) (Q : Nat → Prop) (u : Option Addr) (s : List Itm) : Prop :=
  (u = none ∧ Equiv6 s [] 0) ∨ ∃ t r v, u = some ⟨t, 0, none⟩ ∧ Q t ∧ TaskIn K w C P Q t r v ∧ Equiv6 s r v
theorem Elem.keep {K K' : Nat → List Itm → Prop} {w w1 : World} {C P : Nat} {Q Q' F : Nat → Prop} {u : Option Addr} {s : List Itm} (h : Elem K w C P Q u s) (hK : ∀ f s, K f s → K' f s) (hk : Keep F w w1) (hd : ∀ b, Q b → ¬ F b) (hq : ∀ b, b < w.heap.size → Q b → Q' b) : Elem K' w1 C P Q' u s := by
  rcases h with h | ⟨t, r, v, e, h1, h2, h3⟩
  · exact .inl h
  · have hlt : t < w.heap.size := by obtain ⟨_, _, _, _, hb, _⟩ := h2; exact hb.lt
    exact .inr ⟨t, r, v, e, hq t hlt h1, h2.keep hK hk hd (hd t h1) hq, h3⟩
theorem Elem.ne {K : Nat → List Itm → Prop} {w : World} {C P : Nat} {Q : Nat → Prop} {u : Option Addr} {s : List Itm} (h : Elem K w C P Q u s) : s ≠ [] := by
  rcases h with ⟨_, h⟩ | ⟨t, r, v, e, h1, h2, h3⟩
  · exact h.ne
  · exact h3.ne
/-- a row of tasks, from place o of block B -/
def RowAt (K : Nat → List Itm → Prop) (w : World) (C P : Nat) (Q : Nat → Prop) (B o : Nat) (L : List (Option Addr × List Itm)) : Prop :=
  ∀ i x, L[i]? = some x → w.cell? ⟨B, o + i, none⟩ = some (.pointer x.1) ∧ Elem K w C P Q x.1 x.2
theorem cell_keep6 {w w1 : World} {F : Nat → Prop} {p : Addr} {v : Value} (h : w.cell? p = some v) (hk : Keep F w w1) (hn : ¬ F p.block) : w1.cell? p = some v := by
  have hb : p.block < w.heap.size := by
    unfold World.cell? at h
    cases hb : w.heap[p.block]? with
    | none => rw [hb] at h; cases h
    | some y => exact (Array.getElem?_eq_some_iff.1 hb).1
  unfold World.cell? at h ⊢
  rw [hk.block p.block hb hn]
  exact h
theorem RowAt.keep {K K' : Nat → List Itm → Prop} {w w1 : World} {C P : Nat} {Q Q' F : Nat → Prop} {B o : Nat} {L : List (Option Addr × List Itm)} (h : RowAt K w C P Q B o L) (hK : ∀ f s, K f s → K' f s) (hk : Keep F w w1) (hd : ∀ b, Q b → ¬ F b) (hB : ¬ F B) (hq : ∀ b, b < w.heap.size → Q b → Q' b) : RowAt K' w1 C P Q' B o L :=
  fun i x hx => ⟨cell_keep6 (h i x hx).1 hk hB, (h i x hx).2.keep hK hk hd hq⟩
def flat (L : List (Option Addr × List Itm)) : List Itm := (L.map (·.2)).flatten
/-- one continuation, over what deeper ones are -/
def ContStep (K : Nat → List Itm → Prop) (w : World) (C P : Nat) (Q : Nat → Prop) (f : Nat) (s : List Itm) : Prop :=
  Q f ∧ ∃ bl B o cap L, Blk w f 89 #[cloV 291 #[pV bl]] ∧ Q bl ∧ Blk w bl 54 #[.slice (some ⟨B, o, none⟩) (L.length + 1) cap] ∧ (L ≠ [] → Q B) ∧ L.length < 1000 ∧ L.length + 1 ≤ cap ∧ cap ≤ maxLen ∧ RowAt K w C P Q B (o + 1) L ∧ s = flat L
theorem ContStep.keep {K K' : Nat → List Itm → Prop} {w w1 : World} {C P : Nat} {Q Q' F : Nat → Prop} {f : Nat} {s : List Itm} (h : ContStep K w C P Q f s) (hK : ∀ f s, K f s → K' f s) (hk : Keep F w w1) (hd : ∀ b, Q b → ¬ F b) (hq : ∀ b, b < w.heap.size → Q b → Q' b) : ContStep K' w1 C P Q' f s := by
  obtain ⟨h1, bl, B, o, cap, L, h2, h3, h4, h5, h6, h7, h7b, h8, h9⟩ := h
  refine ⟨hq _ h2.lt h1, bl, B, o, cap, L, h2.keep hk (hd _ h1), hq _ h4.lt h3, h4.keep hk (hd _ h3), fun hL => ?_, h6, h7, h7b, ?_, h9⟩
  · cases L with
    | nil => exact absurd rfl hL
    | cons x L =>
      have hc := (h8 0 x rfl).1
      have hb : B < w.heap.size := by
        unfold World.cell? at hc
        cases hb : w.heap[B]? with
        | none => simp [hb] at hc
        | some y => exact (Array.getElem?_eq_some_iff.1 hb).1
      exact hq B hb (h5 hL)
  · cases L with
    | nil => intro i x hx; simp at hx
    | cons x L => exact h8.keep hK hk hd (hd _ (h5 (by simp))) hq
/-- a continuation: the least there is -/
def Cont (w : World) (C P : Nat) (Q : Nat → Prop) (f : Nat) (s : List Itm) : Prop :=
  ∀ K : Nat → List Itm → Prop, (∀ f s, ContStep K w C P Q f s → K f s) → K f s
theorem Cont.fold {w : World} {C P : Nat} {Q : Nat → Prop} {f : Nat} {s : List Itm} (h : ContStep (Cont w C P Q) w C P Q f s) : Cont w C P Q f s :=
  fun K hK => hK f s (h.keep (F := fun _ => False) (fun f s h => h K hK) (Keep.refl _ _) (fun _ _ h => h) (fun _ _ h => h))
theorem Cont.unfold {w : World} {C P : Nat} {Q : Nat → Prop} {f : Nat} {s : List Itm} (h : Cont w C P Q f s) : ContStep (Cont w C P Q) w C P Q f s :=
  h _ fun f s hs => hs.keep (F := fun _ => False) (fun f s h => Cont.fold h) (Keep.refl _ _) (fun _ _ h => h) (fun _ _ h => h)
theorem Cont.keep {w w1 : World} {C P : Nat} {Q Q' F : Nat → Prop} {f : Nat} {s : List Itm} (h : Cont w C P Q f s) (hk : Keep F w w1) (hd : ∀ b, Q b → ¬ F b) (hq : ∀ b, b < w.heap.size → Q b → Q' b) : Cont w1 C P Q' f s :=
  h _ fun f s hs => Cont.fold (hs.keep (fun _ _ h => h) hk hd hq)
/-- a task with all that is behind it -/
def TaskC (w : World) (C P : Nat) (Q : Nat → Prop) (t : Nat) (r : List Itm) (v : Int) : Prop := TaskIn (Cont w C P Q) w C P Q t r v
theorem TaskC.keep {w w1 : World} {C P : Nat} {Q Q' F : Nat → Prop} {t : Nat} {r : List Itm} {v : Int} (h : TaskC w C P Q t r v) (hk : Keep F w w1) (hd : ∀ b, Q b → ¬ F b) (ht : ¬ F t) (hq : ∀ b, b < w.heap.size → Q b → Q' b) : TaskC w1 C P Q' t r v :=
  TaskIn.keep h (fun _ _ h => h.keep hk hd hq) hk hd ht hq
theorem TaskC.lt {w : World} {C P : Nat} {Q : Nat → Prop} {t : Nat} {r : List Itm} {v : Int} (h : TaskC w C P Q t r v) : t < w.heap.size := by
  obtain ⟨_, _, _, _, hb, _⟩ := h
  exact hb.lt
/-- done, or in need of a step -/
theorem TaskC.view {w : World} {C P : Nat} {Q : Nat → Prop} {t : Nat} {r : List Itm} {v : Int} (h : TaskC w C P Q t r v) :
    (r = [] ∧ DoneV w (some ⟨t, 0, none⟩) v) ∨ ∃ x r' d p rest gs fs, r = x :: r' ∧ Live w t d p rest ∧ TreeO w Q rest (gs ++ fs) ∧ OpAt w C P Q x d p gs ∧ Conts (Cont w C P Q) fs r' := by
  obtain ⟨d, p, rest, val, h1, h2⟩ := h
  cases r with
  | nil => obtain ⟨rfl, rfl, rfl, rfl⟩ := h2; exact .inl ⟨rfl, .inr ⟨t, rfl, h1⟩⟩
  | cons x r =>
    obtain ⟨rfl, gs, fs, h3, h4, h5⟩ := h2
    refine .inr ⟨x, r, d, p, rest, gs, fs, rfl, ⟨h1, ?_⟩, h3, h4, h5⟩
    rcases h4 with ⟨⟨b, G, caps, e1, e2, _⟩, _⟩ | ⟨_, e2, _, pb, e4, _⟩
    · exact .inl ⟨_, _, e1, e2⟩
    · exact .inr ⟨pb, e2, e4⟩
end Go.Proofs.YtldofbkjjmnooaaGreat
/- Package task: operations on cells, done. -/
namespace Go.Proofs.YtldofbkjjmnooaaGreat
open Go.ChangeShapes Go.WideShapes Go.ChangeAt Go.RowKit
set_option linter.unusedVariables false
set_option maxRecDepth 100000
set_option linter.unusedSimpArgs false
/-- what an operation leaves -/
def DoneOp (C S : Nat) (m : List Int) (n : Int) (x : Itm) (w : World) (v : Int) (w' : World) : Prop :=
  v = (operS m x).2.1 ∧ CellsAt w' C S (operS m x).1 (n + countS m x) ∧ Keep (ofCells C S) w w'
theorem clo_load (C S : Nat) (Q : Nat → Prop) (m : List Int) (n : Int) (x : Itm) (bc bi : Nat) (w : World) (hk : x.kind = 0) (hc : Blk w bc 26 #[cellsV C]) (hi : Blk w bi 3 #[.int .i64 x.at'])
    (hC : CellsAt w C S m n) (h0 : 0 ≤ n) (h1 : n < 9223372036854775807) :
    Calls Tryz.prog 277 #[pV bc, pV bi] w fun e w' => ∃ v, e = .returned (.int .i64 v) ∧ DoneOp C S m n x w v w' := by
  have c0 : w.cell? ⟨bc, 0, none⟩ = some (cellsV C) := hc.cell 0 _ rfl
  have c1 : w.cell? ⟨bi, 0, none⟩ = some (.int .i64 x.at') := hi.cell 0 _ rfl
  cases hx : m[x.at']? with
  | some c =>
    have HL := Lib.hid (load_yes C S m n x.at' c w hC hx h0 h1)
    have HX := Lib.hid hx
    have hlt : x.at' < m.length := (List.getElem?_eq_some_iff.1 hx).1
    have HE := Lib.hid hlt
    clear hC hx h1 hlt hc hi
    go_enter Tryz.func277, Tryz.ntmps277
    go_wp2_with (go_at_call 86; refine HL.out.mono ?_; rintro e w2 ⟨rfl, hC2, hk2⟩)
    go_ret
    refine ⟨_, rfl, ?_, ?_, hk2⟩
    · simp [operS, HX.out, hk, wrap64]
    · have := HE.out
      simpa [operS, HX.out, hk, countS, this] using hC2
  | none =>
    have hge : m.length ≤ x.at' := List.getElem?_eq_none_iff.1 hx
    have HL := Lib.hid (load_no C S m n x.at' w hC (.inr (by omega)))
    have HX := Lib.hid hx
    have HC := Lib.hid hC
    have HE := Lib.hid hge
    clear hC hx h1 hge hc hi
    go_enter Tryz.func277, Tryz.ntmps277
    go_wp2_with (go_at_call 86; refine HL.out.mono ?_; rintro e w2 ⟨rfl, hk2⟩)
    go_ret
    have hge := HE.out
    refine ⟨_, rfl, ?_, ?_, Keep.ofBelow hk2⟩
    · simp [operS, HX.out, hk, wrap64]
    · have h3 := HC.out.keep (Keep.ofBelow (Q := fun _ => False) hk2) (fun h => h) (fun h => h)
      have e1 : (operS m x).1 = m := by simp [operS, HX.out]
      have e2 : countS m x = 0 := by simp [countS]; omega
      rw [e1, e2]; simpa using h3
theorem clo_store (C S : Nat) (Q : Nat → Prop) (m : List Int) (n : Int) (x : Itm) (bc bi bv : Nat) (w : World) (hk : x.kind = 1) (hc : Blk w bc 26 #[cellsV C]) (hi : Blk w bi 3 #[.int .i64 x.at']) (hv : Blk w bv 47 #[.int .u64 x.a])
    (hC : CellsAt w C S m n) (h0 : 0 ≤ n) (h1 : n < 9223372036854775807) :
    Calls Tryz.prog 269 #[pV bc, pV bi, pV bv] w fun e w' => ∃ v, e = .returned (.int .i64 v) ∧ DoneOp C S m n x w v w' := by
  have c0 : w.cell? ⟨bc, 0, none⟩ = some (cellsV C) := hc.cell 0 _ rfl
  have c1 : w.cell? ⟨bi, 0, none⟩ = some (.int .i64 x.at') := hi.cell 0 _ rfl
  have c2 : w.cell? ⟨bv, 0, none⟩ = some (.int .u64 x.a) := hv.cell 0 _ rfl
  cases hx : m[x.at']? with
  | some c =>
    have HL := Lib.hid (store_yes C S m n x.at' c x.a w hC hx h0 h1)
    have HX := Lib.hid hx
    have HE := Lib.hid (List.getElem?_eq_some_iff.1 hx).1
    clear hC hx h1 hc hi hv
    go_enter Tryz.func269, Tryz.ntmps269
    go_wp2_with (first | (go_at_call 59; refine HL.out.mono ?_; rintro e w2 ⟨rfl, hC2, hk2⟩) | (go_at_call 219; refine (truth_any _ _).mono ?_; rintro e w3 ⟨rfl, rfl⟩))
    go_ret
    refine ⟨_, rfl, ?_, ?_, hk2⟩
    · simp [operS, HX.out, hk]
    · have := HE.out
      simpa [operS, HX.out, hk, countS, this] using hC2
  | none =>
    have hge : m.length ≤ x.at' := List.getElem?_eq_none_iff.1 hx
    have HL := Lib.hid (store_no C S m n x.at' x.a w hC (.inr (by omega)))
    have HX := Lib.hid hx
    have HC := Lib.hid hC
    have HE := Lib.hid hge
    clear hC hx h1 hge hc hi hv
    go_enter Tryz.func269, Tryz.ntmps269
    go_wp2_with (first | (go_at_call 59; refine HL.out.mono ?_; rintro e w2 ⟨rfl, hk2⟩) | (go_at_call 219; refine (truth_any _ _).mono ?_; rintro e w3 ⟨rfl, rfl⟩))
    go_ret
    have hge := HE.out
    refine ⟨_, rfl, ?_, ?_, Keep.ofBelow hk2⟩
    · simp [operS, HX.out, hk]
    · have h3 := HC.out.keep (Keep.ofBelow (Q := fun _ => False) hk2) (fun h => h) (fun h => h)
      have e1 : (operS m x).1 = m := by simp [operS, HX.out]
      have e2 : countS m x = 0 := by simp [countS]; omega
      rw [e1, e2]; simpa using h3
theorem clo_swap (C S : Nat) (Q : Nat → Prop) (m : List Int) (n : Int) (x : Itm) (bc bi bo bn : Nat) (w : World) (hk : x.kind = 2 ∨ x.kind = 4) (hc : Blk w bc 26 #[cellsV C]) (hi : Blk w bi 3 #[.int .i64 x.at']) (hv : Blk w bo 47 #[.int .u64 x.a]) (hv2 : Blk w bn 47 #[.int .u64 x.b])
    (hC : CellsAt w C S m n) (h0 : 0 ≤ n) (h1 : n < 9223372036854775807) :
    Calls Tryz.prog 288 #[pV bc, pV bi, pV bo, pV bn] w fun e w' => ∃ v, e = .returned (.int .i64 v) ∧ DoneOp C S m n x w v w' := by
  have c0 : w.cell? ⟨bc, 0, none⟩ = some (cellsV C) := hc.cell 0 _ rfl
  have c1 : w.cell? ⟨bi, 0, none⟩ = some (.int .i64 x.at') := hi.cell 0 _ rfl
  have c2 : w.cell? ⟨bo, 0, none⟩ = some (.int .u64 x.a) := hv.cell 0 _ rfl
  have c3 : w.cell? ⟨bn, 0, none⟩ = some (.int .u64 x.b) := hv2.cell 0 _ rfl
  have HK := Lib.hid hk
  have e13 : x.kind ≠ 1 ∧ x.kind ≠ 3 := by omega
  cases hx : m[x.at']? with
  | some c =>
    have HX := Lib.hid hx
    have HE := Lib.hid (List.getElem?_eq_some_iff.1 hx).1
    by_cases hca : c = x.a
    · have HL := Lib.hid (swap_yes C S m n x.at' x.a x.b w hC (by rw [hx, hca]) h0 h1)
      have HA := Lib.hid hca
      have HN := Lib.hid e13
      clear hC hx h1 hc hi hv hv2 hca hk e13
      go_enter Tryz.func288, Tryz.ntmps288
      go_wp2_with (first | (go_at_call 289; refine HL.out.mono ?_; rintro e w2 ⟨rfl, hC2, hk2⟩) | (go_at_call 219; refine (truth_any _ _).mono ?_; rintro e w3 ⟨rfl, rfl⟩))
      go_ret
      refine ⟨_, rfl, ?_, ?_, hk2⟩
      · simp [operS, HX.out, HK.out, HN.out, HA.out]
      · rw [show (operS m x).1 = m.set x.at' x.b by simp [operS, HX.out, HK.out, HN.out, HA.out], show countS m x = 1 by simp [countS, HE.out]]; exact hC2
    · have HL := Lib.hid (swap_other C S m n x.at' c x.a x.b w hC hx hca h0 h1)
      have HA := Lib.hid hca
      have HN := Lib.hid e13
      clear hC hx h1 hc hi hv hv2 hca hk e13
      go_enter Tryz.func288, Tryz.ntmps288
      go_wp2_with (first | (go_at_call 289; refine HL.out.mono ?_; rintro e w2 ⟨rfl, hC2, hk2⟩) | (go_at_call 219; refine (truth_any _ _).mono ?_; rintro e w3 ⟨rfl, rfl⟩))
      go_ret
      refine ⟨_, rfl, ?_, ?_, hk2⟩
      · simp [operS, HX.out, HK.out, HN.out, HA.out]
      · rw [show (operS m x).1 = m by simp [operS, HX.out, HK.out, HN.out, HA.out], show countS m x = 1 by simp [countS, HE.out]]; exact hC2
  | none =>
    have hge : m.length ≤ x.at' := List.getElem?_eq_none_iff.1 hx
    have HL := Lib.hid (swap_no C S m n x.at' x.a x.b w hC (.inr (by omega)))
    have HX := Lib.hid hx
    have HC := Lib.hid hC
    have HE := Lib.hid hge
    clear hC hx h1 hge hc hi hv hv2 hk e13
    go_enter Tryz.func288, Tryz.ntmps288
    go_wp2_with (first | (go_at_call 289; refine HL.out.mono ?_; rintro e w2 ⟨rfl, hk2⟩) | (go_at_call 219; refine (truth_any _ _).mono ?_; rintro e w3 ⟨rfl, rfl⟩))
    go_ret
    have hge := HE.out
    refine ⟨_, rfl, ?_, ?_, Keep.ofBelow hk2⟩
    · simp [operS, HX.out]
    · have h3 := HC.out.keep (Keep.ofBelow (Q := fun _ => False) hk2) (fun h => h) (fun h => h)
      have e1 : (operS m x).1 = m := by simp [operS, HX.out]
      have e2 : countS m x = 0 := by simp [countS]; omega
      rw [e1, e2]; simpa using h3
theorem call_load1 : ∀ (W : World) (args : Array Value), (callFunc 277 args).run Tryz.prog W = .ok (.enter 277 args) W := by
  intro W args
  go_simp
theorem call_store1 : ∀ (W : World) (args : Array Value), (callFunc 269 args).run Tryz.prog W = .ok (.enter 269 args) W := by
  intro W args
  go_simp
theorem call_swap1 : ∀ (W : World) (args : Array Value), (callFunc 288 args).run Tryz.prog W = .ok (.enter 288 args) W := by
  intro W args
  go_simp
/-- what a task's 'do' does -/
theorem do6_any (C S : Nat) (Q : Nat → Prop) (m : List Int) (n : Int) (x : Itm) (b F : Nat) (caps : Array Value) (w : World) (hb : Blk w b 28 #[cloV F caps]) (hx : CloAt w C Q x F caps)
    (hC : CellsAt w C S m n) (h0 : 0 ≤ n) (h1 : n < 9223372036854775807) :
    Calls Tryz.prog 260 #[pV b] w fun e w' => ∃ v, e = .returned (.int .i64 v) ∧ DoneOp C S m n x w v w' := by
  have c0 : w.cell? ⟨b, 0, none⟩ = some (cloV F caps) := hb.cell 0 _ rfl
  have HH : Hid (Calls Tryz.prog 261 #[cloV F caps] w fun e w' => ∃ v, e = .returned (.int .i64 v) ∧ DoneOp C S m n x w v w') := by
    refine Lib.hid ?_
    obtain ⟨bc, bi, _, _, hc, hi, ⟨hk, rfl, rfl⟩ | ⟨hk, rfl, bv, rfl, _, hv⟩ | ⟨hk, rfl, bo, bn, rfl, _, _, hv, hv2⟩ | ⟨hk, hno, bv, rfl, _, hv⟩⟩ := hx
    · exact answerI_any _ _ w (DoneOp C S m n x w) call_load1 (clo_load C S Q m n x bc bi w hk hc hi hC h0 h1)
    · exact answerI_any _ _ w (DoneOp C S m n x w) call_store1 (clo_store C S Q m n x bc bi bv w hk hc hi hv hC h0 h1)
    · exact answerI_any _ _ w (DoneOp C S m n x w) call_swap1 (clo_swap C S Q m n x bc bi bo bn w hk hc hi hv hv2 hC h0 h1)
    · exact hno.elim
  clear hx hC h1 hb
  go_enter Tryz.func260, Tryz.ntmps260
  go_wp2_with (go_at_call 261; refine HH.out.mono ?_; rintro e w2 ⟨v, rfl, hp⟩)
  go_ret
  exact ⟨v, rfl, hp⟩
end Go.Proofs.YtldofbkjjmnooaaGreat
/- Package task: tasks of one operation, made. -/
namespace Go.Proofs.YtldofbkjjmnooaaGreat
open Go.ChangeShapes Go.WideShapes Go.ChangeAt Go.RowKit
set_option linter.unusedVariables false
set_option maxRecDepth 100000
set_option linter.unusedSimpArgs false
/-- a new task -/
def Made6 (w : World) (C P : Nat) (Q : Nat → Prop) (r : List Itm) (v : Int) (t : Nat) (w' : World) : Prop := w.heap.size ≤ t ∧ TaskC w' C P (fun b => Q b ∧ b ≠ t) t r v ∧ Below w.heap.size w w'
theorem Made6.task {w w' : World} {C P : Nat} {Q : Nat → Prop} {r : List Itm} {v : Int} {t : Nat} (h : Made6 w C P Q r v t w') : TaskC w' C P Q t r v :=
  h.2.1.keep (F := fun _ => False) (Keep.refl _ _) (fun _ _ h => h) (fun h => h) (fun b _ h => h.1)
theorem Blk.ne6 {w : World} {a b : Nat} {t u : TypeId} {xs ys : Array Value} (h1 : Blk w a t xs) (h2 : Blk w b u ys) (ht : t ≠ u) : a ≠ b := by
  rintro rfl
  have h3 : w.heap[a]? = some (.cells ys u (0, 0)) := h2
  rw [show w.heap[a]? = _ from h1] at h3
  have := Option.some.inj h3
  simp at this
  exact ht this.2
theorem op_task {w : World} {C P : Nat} {Q : Nat → Prop} {x : Itm} {t b F : Nat} {caps : Array Value} (ht : Blk w t 161 #[cloV 260 #[pV b], .pointer none, .pointer none, .int .i64 0]) (hb : Blk w b 28 #[cloV F caps]) (hq : Q b) (hc : CloAt w C Q x F caps) (h4 : x.kind ≠ 4) : TaskC w C P (fun b => Q b ∧ b ≠ t) t [x] 0 := by
  refine ⟨_, _, _, _, ht, rfl, [], [], .inl ⟨rfl, rfl⟩, .inl ⟨⟨b, F, caps, rfl, rfl, ⟨hq, hb.ne6 ht (by decide)⟩, hb, ?_⟩, .inl ⟨h4, rfl⟩⟩, rfl⟩
  obtain ⟨bc, bi, h1, h2, h3, h4, h⟩ := hc
  refine ⟨bc, bi, ⟨h1, h3.ne6 ht (by decide)⟩, ⟨h2, h4.ne6 ht (by decide)⟩, h3, h4, ?_⟩
  rcases h with h | ⟨a, b, bv, c, d, e⟩ | ⟨a, b, bo, bn, c, d, e, f, g⟩ | ⟨a, b, bv, c, d, e⟩
  · exact .inl h
  · exact .inr (.inl ⟨a, b, bv, c, ⟨d, e.ne6 ht (by decide)⟩, e⟩)
  · exact .inr (.inr (.inl ⟨a, b, bo, bn, c, ⟨d, f.ne6 ht (by decide)⟩, ⟨e, g.ne6 ht (by decide)⟩, f, g⟩))
  · exact .inr (.inr (.inr ⟨a, b, bv, c, ⟨d, e.ne6 ht (by decide)⟩, e⟩))
theorem tready_any (C P : Nat) (Q : Nat → Prop) (v : Int) (w : World) : Calls Tryz.prog 102 #[.int .i64 v] w fun e w' => ∃ t, e = .returned (pV t) ∧ Made6 w C P Q [] v t w' := by
  refine (ready_any v w).mono ?_
  rintro e w' ⟨t, rfl, h1, h2, h3⟩
  exact ⟨t, rfl, h1, ⟨_, _, _, _, h2, rfl, rfl, rfl, rfl⟩, h3⟩
theorem tpark_any (C P : Nat) (Q : Nat → Prop) (x : Itm) (w : World) (hk : x.kind = 5 ∨ x.kind = 6) (hQ : ∀ k, w.heap.size ≤ k → Q k) :
    Calls Tryz.prog 140 #[permitsV P, .int .i64 x.at', .bool (x.kind == 6)] w fun e w' => ∃ t, e = .returned (pV t) ∧ Made6 w C P Q [x] 0 t w' := by
  refine (park_any P x.at' (x.kind == 6) w).mono ?_
  rintro e w' ⟨t, k, rfl, h1, h2, h3, h4, h5⟩
  exact ⟨t, rfl, h1, ⟨_, _, _, _, h4, rfl, [], [], .inl ⟨rfl, rfl⟩, .inr ⟨hk, rfl, rfl, k, rfl, ⟨hQ k h2, h3.ne6 h4 (by decide)⟩, h3⟩, rfl⟩, h5⟩
theorem tLoad_raw (C : Nat) (Q : Nat → Prop) (x : Itm) (w : World) (hk : x.kind = 0) (hQ : ∀ k, w.heap.size ≤ k → Q k) :
    Calls Tryz.prog 193 #[cellsV C, .int .i64 x.at'] w fun e w' => ∃ t b F caps, e = .returned (pV t) ∧ w.heap.size ≤ t ∧ w.heap.size ≤ b ∧ Blk w' b 28 #[cloV F caps] ∧ Blk w' t 161 #[cloV 260 #[pV b], .pointer none, .pointer none, .int .i64 0] ∧ CloAt w' C Q x F caps ∧ Below w.heap.size w w' := by
  have hmf : ∀ (fn : Fn) (first cap : Array Value) (w : World), (Instr.makeFunc fn first cap).run Tryz.prog w = .ok (.func fn first cap) w := fun _ _ _ _ => rfl
  have HQ := Lib.hid hQ
  have HK := Lib.hid hk
  clear hQ hk
  go_enter Tryz.func193, Tryz.ntmps193
  go_upto_region 1 with fail
  generalize hW : (w.alloc _).alloc _ = W
  have bW : Below w.heap.size w W := by rw [← hW]; go_grown
  have sW : W.heap.size = w.heap.size + 2 := by rw [← hW]; simp
  have q0 : Blk W w.heap.size 26 #[cellsV C] := by rw [← hW]; have h := Blk.new (w) 26 #[cellsV C]; (try simp only [World.size_alloc] at h); exact (h.alloc _)
  have q1 : Blk W (w.heap.size + 1) 3 #[.int .i64 x.at'] := by rw [← hW]; have h := Blk.new ((w).alloc (.cells #[cellsV C] 26)) 3 #[.int .i64 x.at']; (try simp only [World.size_alloc] at h); exact h
  clear hW
  have HO := Lib.hid (one_any 277 #[pV w.heap.size, pV (w.heap.size + 1)] W)
  go_wp2_with (go_at_call 167; refine HO.out.mono ?_; rintro e w1 ⟨t, b, rfl, h1, h2, h3, h4, h5⟩)
  go_ret
  refine ⟨t, b, _, _, rfl, by omega, by omega, h3, h4, ?_, bW.trans (h5.mono bW.size)⟩
  refine ⟨w.heap.size, w.heap.size + 1, HQ.out _ (by omega), HQ.out _ (by omega), q0.below h5 q0.lt, q1.below h5 q1.lt, ?_⟩
  exact .inl ⟨HK.out, rfl, rfl⟩
theorem tLoad_any (C P : Nat) (Q : Nat → Prop) (x : Itm) (w : World) (hk : x.kind = 0) (hQ : ∀ k, w.heap.size ≤ k → Q k) :
    Calls Tryz.prog 193 #[cellsV C, .int .i64 x.at'] w fun e w' => ∃ t, e = .returned (pV t) ∧ Made6 w C P Q [x] 0 t w' := by
  refine (tLoad_raw C Q x w hk hQ).mono ?_
  rintro e w' ⟨t, b, F, caps, rfl, h1, h2, h3, h4, h5, h6⟩
  exact ⟨t, rfl, h1, op_task h4 h3 (hQ b h2) h5 (by omega), h6⟩
theorem tStore_raw (C : Nat) (Q : Nat → Prop) (x : Itm) (w : World) (hk : x.kind = 1) (hQ : ∀ k, w.heap.size ≤ k → Q k) :
    Calls Tryz.prog 178 #[cellsV C, .int .i64 x.at', .int .u64 x.a] w fun e w' => ∃ t b F caps, e = .returned (pV t) ∧ w.heap.size ≤ t ∧ w.heap.size ≤ b ∧ Blk w' b 28 #[cloV F caps] ∧ Blk w' t 161 #[cloV 260 #[pV b], .pointer none, .pointer none, .int .i64 0] ∧ CloAt w' C Q x F caps ∧ Below w.heap.size w w' := by
  have hmf : ∀ (fn : Fn) (first cap : Array Value) (w : World), (Instr.makeFunc fn first cap).run Tryz.prog w = .ok (.func fn first cap) w := fun _ _ _ _ => rfl
  have HQ := Lib.hid hQ
  have HK := Lib.hid hk
  clear hQ hk
  go_enter Tryz.func178, Tryz.ntmps178
  go_upto_region 1 with fail
  generalize hW : ((w.alloc _).alloc _).alloc _ = W
  have bW : Below w.heap.size w W := by rw [← hW]; go_grown
  have sW : W.heap.size = w.heap.size + 3 := by rw [← hW]; simp
  have q0 : Blk W w.heap.size 26 #[cellsV C] := by rw [← hW]; have h := Blk.new (w) 26 #[cellsV C]; (try simp only [World.size_alloc] at h); exact ((h.alloc _).alloc _)
  have q1 : Blk W (w.heap.size + 1) 3 #[.int .i64 x.at'] := by rw [← hW]; have h := Blk.new ((w).alloc (.cells #[cellsV C] 26)) 3 #[.int .i64 x.at']; (try simp only [World.size_alloc] at h); exact (h.alloc _)
  have q2 : Blk W (w.heap.size + 2) 47 #[.int .u64 x.a] := by rw [← hW]; have h := Blk.new (((w).alloc (.cells #[cellsV C] 26)).alloc (.cells #[.int .i64 x.at'] 3)) 47 #[.int .u64 x.a]; (try simp only [World.size_alloc] at h); exact h
  clear hW
  have HO := Lib.hid (one_any 269 #[pV w.heap.size, pV (w.heap.size + 1), pV (w.heap.size + 2)] W)
  go_wp2_with (go_at_call 167; refine HO.out.mono ?_; rintro e w1 ⟨t, b, rfl, h1, h2, h3, h4, h5⟩)
  go_ret
  refine ⟨t, b, _, _, rfl, by omega, by omega, h3, h4, ?_, bW.trans (h5.mono bW.size)⟩
  refine ⟨w.heap.size, w.heap.size + 1, HQ.out _ (by omega), HQ.out _ (by omega), q0.below h5 q0.lt, q1.below h5 q1.lt, ?_⟩
  exact .inr (.inl ⟨HK.out, rfl, w.heap.size + 2, rfl, HQ.out _ (by omega), q2.below h5 q2.lt⟩)
theorem tStore_any (C P : Nat) (Q : Nat → Prop) (x : Itm) (w : World) (hk : x.kind = 1) (hQ : ∀ k, w.heap.size ≤ k → Q k) :
    Calls Tryz.prog 178 #[cellsV C, .int .i64 x.at', .int .u64 x.a] w fun e w' => ∃ t, e = .returned (pV t) ∧ Made6 w C P Q [x] 0 t w' := by
  refine (tStore_raw C Q x w hk hQ).mono ?_
  rintro e w' ⟨t, b, F, caps, rfl, h1, h2, h3, h4, h5, h6⟩
  exact ⟨t, rfl, h1, op_task h4 h3 (hQ b h2) h5 (by omega), h6⟩
theorem tSwap_raw (C : Nat) (Q : Nat → Prop) (x : Itm) (w : World) (hk : x.kind = 2 ∨ x.kind = 4) (hQ : ∀ k, w.heap.size ≤ k → Q k) :
    Calls Tryz.prog 217 #[cellsV C, .int .i64 x.at', .int .u64 x.a, .int .u64 x.b] w fun e w' => ∃ t b F caps, e = .returned (pV t) ∧ w.heap.size ≤ t ∧ w.heap.size ≤ b ∧ Blk w' b 28 #[cloV F caps] ∧ Blk w' t 161 #[cloV 260 #[pV b], .pointer none, .pointer none, .int .i64 0] ∧ CloAt w' C Q x F caps ∧ Below w.heap.size w w' := by
  have hmf : ∀ (fn : Fn) (first cap : Array Value) (w : World), (Instr.makeFunc fn first cap).run Tryz.prog w = .ok (.func fn first cap) w := fun _ _ _ _ => rfl
  have HQ := Lib.hid hQ
  have HK := Lib.hid hk
  clear hQ hk
  go_enter Tryz.func217, Tryz.ntmps217
  go_upto_region 1 with fail
  generalize hW : (((w.alloc _).alloc _).alloc _).alloc _ = W
  have bW : Below w.heap.size w W := by rw [← hW]; go_grown
  have sW : W.heap.size = w.heap.size + 4 := by rw [← hW]; simp
  have q0 : Blk W w.heap.size 26 #[cellsV C] := by rw [← hW]; have h := Blk.new (w) 26 #[cellsV C]; (try simp only [World.size_alloc] at h); exact (((h.alloc _).alloc _).alloc _)
  have q1 : Blk W (w.heap.size + 1) 3 #[.int .i64 x.at'] := by rw [← hW]; have h := Blk.new ((w).alloc (.cells #[cellsV C] 26)) 3 #[.int .i64 x.at']; (try simp only [World.size_alloc] at h); exact ((h.alloc _).alloc _)
  have q2 : Blk W (w.heap.size + 2) 47 #[.int .u64 x.a] := by rw [← hW]; have h := Blk.new (((w).alloc (.cells #[cellsV C] 26)).alloc (.cells #[.int .i64 x.at'] 3)) 47 #[.int .u64 x.a]; (try simp only [World.size_alloc] at h); exact (h.alloc _)
  have q3 : Blk W (w.heap.size + 3) 47 #[.int .u64 x.b] := by rw [← hW]; have h := Blk.new ((((w).alloc (.cells #[cellsV C] 26)).alloc (.cells #[.int .i64 x.at'] 3)).alloc (.cells #[.int .u64 x.a] 47)) 47 #[.int .u64 x.b]; (try simp only [World.size_alloc] at h); exact h
  clear hW
  have HO := Lib.hid (one_any 288 #[pV w.heap.size, pV (w.heap.size + 1), pV (w.heap.size + 2), pV (w.heap.size + 3)] W)
  go_wp2_with (go_at_call 167; refine HO.out.mono ?_; rintro e w1 ⟨t, b, rfl, h1, h2, h3, h4, h5⟩)
  go_ret
  refine ⟨t, b, _, _, rfl, by omega, by omega, h3, h4, ?_, bW.trans (h5.mono bW.size)⟩
  refine ⟨w.heap.size, w.heap.size + 1, HQ.out _ (by omega), HQ.out _ (by omega), q0.below h5 q0.lt, q1.below h5 q1.lt, ?_⟩
  exact .inr (.inr (.inl ⟨HK.out, rfl, w.heap.size + 2, w.heap.size + 3, rfl, HQ.out _ (by omega), HQ.out _ (by omega), q2.below h5 q2.lt, q3.below h5 q3.lt⟩))
theorem tSwap_any (C P : Nat) (Q : Nat → Prop) (x : Itm) (w : World) (hk : x.kind = 2) (hQ : ∀ k, w.heap.size ≤ k → Q k) :
    Calls Tryz.prog 217 #[cellsV C, .int .i64 x.at', .int .u64 x.a, .int .u64 x.b] w fun e w' => ∃ t, e = .returned (pV t) ∧ Made6 w C P Q [x] 0 t w' := by
  refine (tSwap_raw C Q x w (.inl hk) hQ).mono ?_
  rintro e w' ⟨t, b, F, caps, rfl, h1, h2, h3, h4, h5, h6⟩
  exact ⟨t, rfl, h1, op_task h4 h3 (hQ b h2) h5 (by omega), h6⟩
end Go.Proofs.YtldofbkjjmnooaaGreat
/- Package task: Then. -/
namespace Go.Proofs.YtldofbkjjmnooaaGreat
open Go.ChangeShapes Go.WideShapes Go.ChangeAt Go.RowKit
set_option linter.unusedVariables false
set_option maxRecDepth 100000
set_option linter.unusedSimpArgs false
theorem Live.unique {w : World} {k : Nat} {d p r d' p' r' : Value} (h : Live w k d p r) (h' : Live w k d' p' r') : d' = d ∧ p' = p ∧ r' = r := by
  have e := (show w.heap[k]? = _ from h.blk).symm.trans h'.blk
  simp at e
  exact ⟨e.1.symm, e.2.1.symm, e.2.2.symm⟩
theorem DoneV.live {w : World} {k : Nat} {v : Int} {d p r : Value} (h : DoneV w (some ⟨k, 0, none⟩) v) (h' : Live w k d p r) : False := by
  rcases h with ⟨h, _⟩ | ⟨k', e, h⟩
  · cases h
  · obtain rfl : k = k' := by simpa using e
    have e := (show w.heap[k]? = _ from h).symm.trans h'.blk
    simp at e
    rcases h'.op with ⟨F, caps, rfl, _⟩ | ⟨q, rfl, rfl⟩
    · simp [cloV] at e
    · simp [pV] at e
theorem call_then11 : ∀ (W : World) (args : Array Value), (callFunc 223 args).run Tryz.prog W = .ok (.enter 223 args) W := by
  intro W args
  go_simp
theorem call_order1 : ∀ (W : World) (args : Array Value), (callFunc 291 args).run Tryz.prog W = .ok (.enter 291 args) W := by
  intro W args
  go_simp
theorem then11_any (f bv G : Nat) (caps : Array Value) (v : Int) (w : World) (R : Nat → World → Prop) (hf : Blk w f 89 #[cloV G caps]) (hv : Blk w bv 3 #[.int .i64 v])
    (hcall : ∀ (W : World) (args : Array Value), (callFunc G args).run Tryz.prog W = .ok (.enter G args) W)
    (hG : Calls Tryz.prog G (#[.int .i64 v] ++ caps) w fun e w' => ∃ t, e = .returned (pV t) ∧ R t w') :
    Calls Tryz.prog 223 #[pV f, pV bv] w fun e w' => ∃ t, e = .returned (pV t) ∧ R t w' := by
  have c0 : w.cell? ⟨f, 0, none⟩ = some (cloV G caps) := hf.cell 0 _ rfl
  have c1 : w.cell? ⟨bv, 0, none⟩ = some (.int .i64 v) := hv.cell 0 _ rfl
  have HG := Lib.hid hG
  clear hG hf hv
  go_enter Tryz.func223, Tryz.ntmps223
  go_wp2_with fail
  refine HG.out.mono ?_
  rintro e w2 ⟨t, rfl, hR⟩
  go_wp2_with fail
  go_ret
  exact ⟨t, rfl, hR⟩
theorem then1_any (f G : Nat) (caps : Array Value) (v : Int) (w : World) (R : Nat → World → Prop) (hf : Blk w f 89 #[cloV G caps])
    (hcall : ∀ (W : World) (args : Array Value), (callFunc G args).run Tryz.prog W = .ok (.enter G args) W)
    (hG : ∀ w1, Below w.heap.size w w1 → Calls Tryz.prog G (#[.int .i64 v] ++ caps) w1 fun e w' => ∃ t, e = .returned (pV t) ∧ R t w') :
    Calls Tryz.prog 221 #[.int .i64 v, pV f] w fun e w' => ∃ t, e = .returned (pV t) ∧ R t w' := by
  have hmf : ∀ (fn : Fn) (first cap : Array Value) (w : World), (Instr.makeFunc fn first cap).run Tryz.prog w = .ok (.func fn first cap) w := fun _ _ _ _ => rfl
  have HH := Lib.hid fun W hb hv => answerT_any 223 #[pV f, pV w.heap.size] W R call_then11 (then11_any f w.heap.size G caps v W R (hf.below hb hf.lt) hv hcall (hG W hb))
  clear hG hf hcall
  go_enter Tryz.func221, Tryz.ntmps221
  go_upto_region 1 with fail
  generalize hW : (w.alloc _) = W
  have bW : Below w.heap.size w W := by rw [← hW]; go_grown
  have q0 : Blk W w.heap.size 3 #[.int .i64 v] := by rw [← hW]; exact Blk.new w _ _
  clear hW
  have HA := Lib.hid (HH.out W bW q0)
  go_wp2_with (go_at_call 222; refine HA.out.mono ?_; rintro e w2 ⟨t, rfl, hR⟩)
  go_ret
  exact ⟨t, rfl, hR⟩
/-- a task that needs a step, and something behind it -/
theorem then_raw (k F : Nat) (caps : Array Value) (d p r : Value) (gs : List Nat) (Q : Nat → Prop) (w : World) (hL : Live w k d p r) (hT : TreeO w Q r gs) (hQ : ∀ k, w.heap.size ≤ k → Q k) :
    Calls Tryz.prog 137 #[pV k, cloV F caps] w fun e w' => ∃ t f j, e = .returned (pV t) ∧ w.heap.size ≤ t ∧ w.heap.size ≤ f ∧ Blk w' f 89 #[cloV F caps] ∧ Live w' t d p j ∧ TreeO w' (fun b => Q b ∧ b ≠ t) j (gs ++ [f]) ∧ f ≠ t ∧ Below w.heap.size w w' := by
  have hmf : ∀ (fn : Fn) (first cap : Array Value) (w : World), (Instr.makeFunc fn first cap).run Tryz.prog w = .ok (.func fn first cap) w := fun _ _ _ _ => rfl
  have HQ := Lib.hid hQ
  have HL := Lib.hid hL
  have HT := Lib.hid hT
  clear hQ hL hT
  go_enter Tryz.func137, Tryz.ntmps137
  go_upto_region 1 with fail
  generalize hW : (w.alloc _) = W
  have bW : Below w.heap.size w W := by rw [← hW]; go_grown
  have q0 : Blk W w.heap.size 89 #[cloV F caps] := by rw [← hW]; exact Blk.new w _ _
  clear hW
  go_upto_region 2 with (go_at_call 220; refine (only_any _ _ _).mono ?_; rintro e w2 ⟨lp, rfl, l1, l2, l3⟩)
  have hk := HL.out.blk.lt
  have hs2 := l3.size
  have hsW := bW.size
  generalize hW3 : (w2.alloc _) = W3
  have b3 : Below W.heap.size W W3 := by rw [← hW3]; exact l3.alloc (by omega) _
  have s3 : W3.heap.size = w2.heap.size + 1 := by rw [← hW3]; simp
  have qt : Blk W3 w2.heap.size 161 #[.nilFunc, .pointer none, pV lp, .int .i64 0] := by rw [← hW3]; exact Blk.new w2 _ _
  have ql : Blk W3 lp 305 #[.pointer none, .pointer none, cloV 221 #[pV w.heap.size]] := by rw [← hW3]; exact l2.alloc _
  have hlp := l2.lt
  clear hW3
  have bw3 : Below w.heap.size w W3 := bW.trans (b3.mono hsW)
  have qf := q0.below b3 q0.lt
  have kk : Keep (fun _ => False) w W3 := Keep.ofBelow bw3
  have L3 : Live W3 k d p r := HL.out.keep kk (fun h => h)
  have T3 : TreeO W3 (fun b => Q b ∧ b ≠ w2.heap.size) r gs := (HT.out.mono (Q' := fun b => Q b ∧ b ≠ w2.heap.size) fun b hb hq => ⟨hq, by omega⟩).keep kk (fun _ _ h => h)
  have hqf := q0.lt
  have HG := Lib.hid (goon_gen w2.heap.size (some ⟨k, 0, none⟩) .nilFunc (.pointer none) (pV lp) 0 [w.heap.size] (fun b => Q b ∧ b ≠ w2.heap.size) (fun a n fs => n = some ⟨k, 0, none⟩ ∧ fs = [w.heap.size] ∧ Live a k d p r ∧ TreeO a (fun b => Q b ∧ b ≠ w2.heap.size) r gs) W3
    qt (.inr ⟨0, lp, rfl, .leaf lp _ ⟨HQ.out _ (by omega), by omega⟩ ql⟩) (fun j hj => ⟨HQ.out _ (by omega), by omega⟩) (fun h => h.2 rfl) ⟨rfl, rfl, L3, T3⟩
    (fun a b n fs _ h hk2 => ⟨h.1, h.2.1, h.2.2.1.keep hk2 (by omega), h.2.2.2.keep hk2 (fun b hb => hb.2)⟩)
    (fun a n fs h => ⟨by rw [h.1]; intro e; injection e with e1; injection e1 with e2; omega, .inr ⟨k, d, p, r, gs, h.1, h.2.2.1, h.2.2.2⟩⟩)
    (fun a n f fs v _ h hd => by rw [h.1] at hd; exact (hd.live h.2.2.1).elim))
  clear qt ql qf
  go_wp2_with (go_at_call 119; refine HG.out.mono ?_; rintro e w4 ⟨rfl, k4, n4, fs4, ⟨rfl, rfl, L4, T4⟩, hpost⟩)
  go_ret
  rcases hpost with ⟨e, _⟩ | ⟨k5, d5, p5, r5, g5, j, e5, L5, T5, T6, B6⟩
  · cases e
  · obtain rfl : k = k5 := by simpa using e5
    obtain ⟨rfl, rfl, rfl⟩ := L4.unique L5
    obtain rfl := T4.unique T5
    have b4 : Below w.heap.size w w4 := bw3.trans (k4.below bw3.size (fun i _ h => by omega))
    refine ⟨w2.heap.size, w.heap.size, j, rfl, by omega, Nat.le_refl _, ?_, ⟨B6, L5.op⟩, T6, by omega, b4⟩
    exact (q0.below b3 q0.lt).keep k4 (by omega)
/-- a task that is done, and a last one of a list behind it -/
theorem order1_last (bl : Nat) (a : Option Addr) (cap : Nat) (v : Int) (w : World) (hb : Blk w bl 54 #[.slice a 1 cap]) :
    Calls Tryz.prog 291 #[.int .i64 v, pV bl] w fun e w' => ∃ t, e = .returned (pV t) ∧ w.heap.size ≤ t ∧ DoneV w' (some ⟨t, 0, none⟩) v ∧ Below w.heap.size w w' := by
  have c0 : w.cell? ⟨bl, 0, none⟩ = some (.slice a 1 cap) := hb.cell 0 _ rfl
  clear hb
  go_enter Tryz.func291, Tryz.ntmps291
  go_wp2_with (go_at_call 102; refine (ready_any _ _).mono ?_; rintro e w2 ⟨t, rfl, h1, h2, h3⟩)
  go_ret
  exact ⟨t, rfl, h1, .inr ⟨t, rfl, h2⟩, h3⟩
theorem then_last (n : Option Addr) (v : Int) (bl : Nat) (a : Option Addr) (cap : Nat) (Q : Nat → Prop) (w : World) (hn : DoneV w n v) (hb : Blk w bl 54 #[.slice a 1 cap]) (hQ : ∀ k, w.heap.size ≤ k → Q k) :
    Calls Tryz.prog 137 #[.pointer n, cloV 291 #[pV bl]] w fun e w' => ∃ t, e = .returned (pV t) ∧ w.heap.size ≤ t ∧ DoneV w' (some ⟨t, 0, none⟩) v ∧ Below w.heap.size w w' := by
  have hmf : ∀ (fn : Fn) (first cap : Array Value) (w : World), (Instr.makeFunc fn first cap).run Tryz.prog w = .ok (.func fn first cap) w := fun _ _ _ _ => rfl
  have HQ := Lib.hid hQ
  have HN := Lib.hid hn
  have HB := Lib.hid hb
  clear hQ hn hb
  go_enter Tryz.func137, Tryz.ntmps137
  go_upto_region 1 with fail
  generalize hW : (w.alloc _) = W
  have bW : Below w.heap.size w W := by rw [← hW]; go_grown
  have q0 : Blk W w.heap.size 89 #[cloV 291 #[pV bl]] := by rw [← hW]; exact Blk.new w _ _
  clear hW
  go_upto_region 2 with (go_at_call 220; refine (only_any _ _ _).mono ?_; rintro e w2 ⟨lp, rfl, l1, l2, l3⟩)
  have hk : ∀ k, n = some ⟨k, 0, none⟩ → k < w.heap.size := fun k e => by
    rcases HN.out with ⟨h, _⟩ | ⟨k', e', h⟩
    · rw [h] at e; cases e
    · rw [e'] at e; obtain rfl : k' = k := by simpa using e
      exact h.lt
  have hbl := HB.out.lt
  have hs2 := l3.size
  have hsW := bW.size
  generalize hW3 : (w2.alloc _) = W3
  have b3 : Below W.heap.size W W3 := by rw [← hW3]; exact l3.alloc (by omega) _
  have s3 : W3.heap.size = w2.heap.size + 1 := by rw [← hW3]; simp
  have qt : Blk W3 w2.heap.size 161 #[.nilFunc, .pointer none, pV lp, .int .i64 0] := by rw [← hW3]; exact Blk.new w2 _ _
  have ql : Blk W3 lp 305 #[.pointer none, .pointer none, cloV 221 #[pV w.heap.size]] := by rw [← hW3]; exact l2.alloc _
  have hlp := l2.lt
  clear hW3
  have bw3 : Below w.heap.size w W3 := bW.trans (b3.mono hsW)
  have qf := q0.below b3 q0.lt
  have kk : Keep (fun _ => False) w W3 := Keep.ofBelow bw3
  have hqf := q0.lt
  have HG := Lib.hid (goon_gen w2.heap.size n .nilFunc (.pointer none) (pV lp) 0 [w.heap.size] (fun b => Q b ∧ b ≠ w2.heap.size)
    (fun a' n' fs => DoneV a' n' v ∧ n' ≠ some ⟨w2.heap.size, 0, none⟩ ∧ Blk a' w.heap.size 89 #[cloV 291 #[pV bl]] ∧ Blk a' bl 54 #[.slice a 1 cap] ∧ (fs = [] ∨ fs = [w.heap.size])) W3
    qt (.inr ⟨0, lp, rfl, .leaf lp _ ⟨HQ.out _ (by omega), by omega⟩ ql⟩) (fun j hj => ⟨HQ.out _ (by omega), by omega⟩) (fun h => h.2 rfl)
    ⟨HN.out.keep kk (fun _ _ h => h), fun e => by have := hk _ e; omega, qf, HB.out.keep kk (fun h => h), .inr rfl⟩
    (fun a b n fs _ h hk2 => ⟨h.1.keep hk2 (fun k e hk3 => h.2.1 (by rw [e, hk3])), h.2.1, h.2.2.1.keep hk2 (by omega), h.2.2.2.1.keep hk2 (by omega), h.2.2.2.2⟩)
    (fun a n fs h => ⟨h.2.1, .inl ⟨v, h.1⟩⟩)
    (fun b n f fs v' hsz h hd => by
      have hv : v' = v := by
        rcases h.1 with ⟨e1, e2⟩ | ⟨k1, e1, e2⟩
        · rcases hd with ⟨e3, e4⟩ | ⟨k3, e3, e4⟩
          · rw [e4, e2]
          · rw [e1] at e3; cases e3
        · rcases hd with ⟨e3, e4⟩ | ⟨k3, e3, e4⟩
          · rw [e1] at e3; cases e3
          · rw [e1] at e3; obtain rfl : k1 = k3 := by simpa using e3
            have e := (show b.heap[k1]? = _ from e4).symm.trans e2
            simpa using e
      subst hv
      obtain ⟨h1, h2, h3, h4, h5⟩ := h
      rcases h5 with h5 | h5
      · cases h5
      · simp only [List.cons.injEq] at h5
        obtain ⟨rfl, rfl⟩ := h5
        refine (then1_any _ 291 #[pV bl] v' b (fun t w' => b.heap.size ≤ t ∧ DoneV w' (some ⟨t, 0, none⟩) v' ∧ Below b.heap.size b w') h3 call_order1 fun w1 hb1 => ?_).mono ?_
        · refine (order1_last bl a cap v' w1 (h4.below hb1 h4.lt)).mono ?_
          rintro e w' ⟨t, rfl, g1, g2, g3⟩
          have := hb1.size
          exact ⟨t, rfl, by omega, g2, hb1.trans (g3.mono this)⟩
        · rintro e w' ⟨t, rfl, g1, g2, g3⟩
          refine ⟨t, rfl, ⟨g2, fun e => ?_, h3.below g3 h3.lt, h4.below g3 h4.lt, .inl rfl⟩, g3⟩
          have : t = w2.heap.size := by injection e with e1; injection e1
          omega))
  clear qt ql qf
  go_wp2_with (go_at_call 119; refine HG.out.mono ?_; rintro e w4 ⟨rfl, k4, n4, fs4, hJ4, hpost⟩)
  go_ret
  have b4 : Below w.heap.size w w4 := bw3.trans (k4.below bw3.size (fun i _ h => by omega))
  rcases hpost with ⟨rfl, v4, hd4, B4⟩ | ⟨k5, d5, p5, r5, g5, j, rfl, L5, T5, T6, B6⟩
  · have hv : v4 = v := by
      rcases hJ4.1 with ⟨e1, e2⟩ | ⟨k1, e1, e2⟩
      · rcases hd4 with ⟨e3, e4⟩ | ⟨k3, e3, e4⟩
        · rw [e4, e2]
        · rw [e1] at e3; cases e3
      · rcases hd4 with ⟨e3, e4⟩ | ⟨k3, e3, e4⟩
        · rw [e1] at e3; cases e3
        · rw [e1] at e3; obtain rfl : k1 = k3 := by simpa using e3
          have e := (show w4.heap[k1]? = _ from e4).symm.trans e2
          simpa using e
    subst hv
    exact ⟨w2.heap.size, rfl, by omega, .inr ⟨_, rfl, B4⟩, b4⟩
  · exact (hJ4.1.live L5).elim
end Go.Proofs.YtldofbkjjmnooaaGreat
