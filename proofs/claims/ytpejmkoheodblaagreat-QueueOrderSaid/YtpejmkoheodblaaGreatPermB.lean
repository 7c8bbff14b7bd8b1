/- Contracts of package permit, for one goroutine alone: Give, Take, Block (of a thread that has a permit, or that there is not). -/
import Derived.Test.YtpejmkoheodblaaGreatPermA
namespace Go.Proofs.YtpejmkoheodblaaGreat
open Go.ChangeShapes Go.WideShapes Go.ChangeAt Go.RowKit Go.Conc
set_option linter.unusedVariables false
set_option maxRecDepth 100000
set_option linter.unusedSimpArgs false
/-- a call, by its contract, within the machine of one -/
theorem LoneTo.call {P : Program} {Q : Goroutine → World → Prop} {R : Ending → World → Prop} {b : Frame} {a : Act} {k : List Item} {cs : List Frame} {w : World} {ops : Array Oper} {i : Nat} {rest : List Nat} {o : Oper} {f : FuncId} {fn : Func} {args : Array Operand} {ats : Array TypeId} {vs : Array Value}
    (ho : ops[i]? = some o) (hw : Region.wanted o (yielded ops a.tmps) = true) (hk : b.kind ≠ .early) (hop : o.op = .call { callee := .value (.func f), args, argTypes := ats })
    (hf : P.funcs[f]? = some fn) (hname : (fn.name == "runtime.NumGoroutine") = false) (hb : fn.body.isNone = false) (hv : args.map a.eval = vs) (h : Calls P f vs w R)
    (hR : ∀ e w', R e w' → ∃ v, e = .returned v ∧ LoneTo P Q (G (b.at (a.put ((ops[i]?).bind (·.dst)) v) (.inRegion ops rest :: k)) cs) w') :
    LoneTo P Q (G (b.at a (.inRegion ops (i :: rest) :: k)) cs) w := by
  subst hv
  obtain ⟨e, w', fr', hR', hc, hf', hl⟩ := h (b.at a (.inRegion ops (i :: rest) :: k) :: cs)
  obtain ⟨v, rfl, g, w2, hs, hq⟩ := hR e w' hR'
  refine ⟨g, w2, Steps.head (step_solo_go rfl (stepG_enter ho hw hk (run_call_body hop hf hname hb))) (Steps.trans hc (Steps.head (step_leave_returned hl) ?_)), hq⟩
  rw [Frame.finish_at]
  exact hs
theorem set_same {l : List Bool} {t : Nat} {b : Bool} (h : l[t]? = some b) : l.set t b = l := by
  apply List.ext_getElem?
  intro i
  by_cases e : t = i
  · subst e
    rw [List.getElem?_set_self (List.getElem?_eq_some_iff.1 h).1, h]
  · rw [List.getElem?_set_ne e]
theorem chan_for {w : World} {P S : Nat} {cs : List Nat} {l : List Bool} {t : Nat} {b : Bool} (hP : PermitsAt w P S cs l) (hb : l[t]? = some b) : ∃ c, cs[t]? = some c := by
  have := hP.len
  have h2 := (List.getElem?_eq_some_iff.1 hb).1
  exact ⟨cs[t]'(by omega), by simp⟩
set_option maxRecDepth 100000 in
theorem take_any (P S : Nat) (cs : List Nat) (l : List Bool) (t : Nat) (b : Bool) (w : World) (hP : PermitsAt w P S cs l) (hb : l[t]? = some b) :
    Calls Tryz.prog 125 #[permitsV P, .int .i64 t] w fun e w' => e = .returned (.bool b) ∧ PermitsAt w' P S cs (l.set t false) ∧ Keep (fun k => k ∈ cs) w w' := by
  obtain ⟨c, hc⟩ := chan_for hP hb
  have ho := of_any P S cs l t c w hP hc
  obtain ⟨s, r, hch⟩ := hP.chan t c b hc hb
  refine calls_of_loneTo fun cs' => ?_
  have e : Frame.enter Tryz.prog 125 #[permitsV P, .int .i64 t] .normal = (base 125).at ⟨#[permitsV P, .int .i64 t] ++ Array.replicate (Tryz.f125.ntmps - 2) undef, []⟩ [.code (Tryz.f125.body.getD .skip)] := by
    rw [enter_at _ Tryz.func125 rfl]; rfl
  rw [e]
  refine LoneTo.goes (n := 60) ?_
  simp only [Tryz.f125, Option.getD_some]
  walk_nrm
  repeat (first | s_c stepG_seq | s_c stepG_region_end | s_c stepG_skip | s_c stepG_block | s_c stepG_inBlock | s_reg | s_op)
  s_stop
  refine LoneTo.call (f := 136) (fn := Tryz.f136) rfl rfl (by decide) rfl Tryz.func136 (by kernel_rfl) (by kernel_rfl) ?_ ho ?_
  · walk_nrm
  rintro e1 w1 ⟨rfl, rfl⟩
  refine ⟨_, rfl, ?_⟩
  walk_nrm
  refine LoneTo.goes (n := 60) ?_
  repeat (first | s_c stepG_seq | s_c stepG_region_end | s_c stepG_skip | s_c stepG_block | s_c stepG_inBlock | s_reg | s_op)
  s_stop
  have hcomm : (execOp (Act.eval ⟨#[permitsV P, .int .i64 t, undef, undef, .bool false, permitsV P, .int .i64 t, .chan (some c), undef, undef, undef], []⟩)
      { dst := some 8, op := Op.select #[{ chan := Operand.tmp 7, send := none, elem := 77 }] false, type := 0, pos := "permit.go:59", after := #[], guard := none }).run Tryz.prog w = .ok (.comm #[rcase c tokV] false .select) w := by
    simp [go_sem, execOp, rcase, rcaseNil, Act.eval]
  cases b
  · refine LoneTo.step (step_lone_select_default (c := c) (cap := 1) (s := s) (r := r) (tm := false) (stepG_comm rfl rfl (by decide) hcomm) hch) ?_
    rw [Frame.finish_at]
    walk_nrm
    refine LoneTo.goes (n := 60) ?_
    repeat (first | s_c stepG_seq | s_c stepG_region_end | s_c stepG_skip | s_c stepG_block | s_c stepG_inBlock | s_reg | s_op)
    s_cond false
    repeat (first | s_c stepG_seq | s_c stepG_region_end | s_c stepG_skip | s_c stepG_block | s_c stepG_inBlock | s_reg | s_op)
    s_c stepG_ret'
    s_stop
    refine LoneTo.done ⟨.returned (.bool false), _, rfl, ⟨rfl, ?_⟩, rfl, rfl, rfl, rfl, _, Tryz.func125, by simp [results, Tryz.results125, Frame.at]⟩
    exact ⟨by rwa [set_same hb], Keep.refl _ w⟩
  · refine LoneTo.step (step_lone_select_recv_buf (c := c) (cap := 1) (buf := #[tokV]) (s := s) (r := r) (tm := false) (stepG_comm rfl rfl (by decide) hcomm) hch (by simp)) ?_
    rw [Frame.finish_at]
    walk_nrm
    refine LoneTo.goes (n := 60) ?_
    repeat (first | s_c stepG_seq | s_c stepG_region_end | s_c stepG_skip | s_c stepG_block | s_c stepG_inBlock | s_reg | s_op)
    s_cond true
    repeat (first | s_c stepG_seq | s_c stepG_region_end | s_c stepG_skip | s_c stepG_block | s_c stepG_inBlock | s_reg | s_op)
    s_c stepG_ret'
    s_stop
    refine LoneTo.done ⟨.returned (.bool true), _, rfl, ⟨rfl, ?_⟩, rfl, rfl, rfl, rfl, _, Tryz.func125, by simp [results, Tryz.results125, Frame.at]⟩
    exact hP.setChan hc false s (r + 1)
set_option maxRecDepth 100000 in
theorem take_no (P S : Nat) (cs : List Nat) (l : List Bool) (t : Int) (w : World) (hP : PermitsAt w P S cs l) (ht : t < 0 ∨ (l.length : Int) ≤ t) :
    Calls Tryz.prog 125 #[permitsV P, .int .i64 t] w fun e w' => e = .returned (.bool false) ∧ w = w' := by
  have ho := of_no P S cs l t w hP ht
  refine calls_of_loneTo fun cs' => ?_
  have e : Frame.enter Tryz.prog 125 #[permitsV P, .int .i64 t] .normal = (base 125).at ⟨#[permitsV P, .int .i64 t] ++ Array.replicate (Tryz.f125.ntmps - 2) undef, []⟩ [.code (Tryz.f125.body.getD .skip)] := by
    rw [enter_at _ Tryz.func125 rfl]; rfl
  rw [e]
  refine LoneTo.goes (n := 60) ?_
  simp only [Tryz.f125, Option.getD_some]
  walk_nrm
  repeat (first | s_c stepG_seq | s_c stepG_region_end | s_c stepG_skip | s_c stepG_block | s_c stepG_inBlock | s_reg | s_op)
  s_stop
  refine LoneTo.call (f := 136) (fn := Tryz.f136) rfl rfl (by decide) rfl Tryz.func136 (by kernel_rfl) (by kernel_rfl) ?_ ho ?_
  · walk_nrm
  rintro e1 w1 ⟨rfl, rfl⟩
  refine ⟨_, rfl, ?_⟩
  walk_nrm
  refine LoneTo.goes (n := 60) ?_
  repeat (first | s_c stepG_seq | s_c stepG_region_end | s_c stepG_skip | s_c stepG_block | s_c stepG_inBlock | s_reg | s_op)
  s_stop
  have hcomm : (execOp (Act.eval ⟨#[permitsV P, .int .i64 t, undef, undef, .bool false, permitsV P, .int .i64 t, .chan none, undef, undef, undef], []⟩)
      { dst := some 8, op := Op.select #[{ chan := Operand.tmp 7, send := none, elem := 77 }] false, type := 0, pos := "permit.go:59", after := #[], guard := none }).run Tryz.prog w = .ok (.comm #[rcaseNil tokV] false .select) w := by
    simp [go_sem, execOp, rcase, rcaseNil, Act.eval]
  refine LoneTo.step (step_lone_select_recv_nil (stepG_comm rfl rfl (by decide) hcomm)) ?_
  rw [Frame.finish_at]
  walk_nrm
  refine LoneTo.goes (n := 60) ?_
  repeat (first | s_c stepG_seq | s_c stepG_region_end | s_c stepG_skip | s_c stepG_block | s_c stepG_inBlock | s_reg | s_op)
  s_cond false
  repeat (first | s_c stepG_seq | s_c stepG_region_end | s_c stepG_skip | s_c stepG_block | s_c stepG_inBlock | s_reg | s_op)
  s_c stepG_ret'
  s_stop
  refine LoneTo.done ⟨.returned (.bool false), _, rfl, ⟨rfl, ?_⟩, rfl, rfl, rfl, rfl, _, Tryz.func125, by simp [results, Tryz.results125, Frame.at]⟩
  rfl
set_option maxRecDepth 100000 in
theorem take_nil (t : Int) (w : World) :
    Calls Tryz.prog 125 #[.pointer none, .int .i64 t] w fun e w' => e = .returned (.bool false) ∧ w = w' := by
  have ho := of_nil t w
  refine calls_of_loneTo fun cs' => ?_
  have e : Frame.enter Tryz.prog 125 #[.pointer none, .int .i64 t] .normal = (base 125).at ⟨#[.pointer none, .int .i64 t] ++ Array.replicate (Tryz.f125.ntmps - 2) undef, []⟩ [.code (Tryz.f125.body.getD .skip)] := by
    rw [enter_at _ Tryz.func125 rfl]; rfl
  rw [e]
  refine LoneTo.goes (n := 60) ?_
  simp only [Tryz.f125, Option.getD_some]
  walk_nrm
  repeat (first | s_c stepG_seq | s_c stepG_region_end | s_c stepG_skip | s_c stepG_block | s_c stepG_inBlock | s_reg | s_op)
  s_stop
  refine LoneTo.call (f := 136) (fn := Tryz.f136) rfl rfl (by decide) rfl Tryz.func136 (by kernel_rfl) (by kernel_rfl) ?_ ho ?_
  · walk_nrm
  rintro e1 w1 ⟨rfl, rfl⟩
  refine ⟨_, rfl, ?_⟩
  walk_nrm
  refine LoneTo.goes (n := 60) ?_
  repeat (first | s_c stepG_seq | s_c stepG_region_end | s_c stepG_skip | s_c stepG_block | s_c stepG_inBlock | s_reg | s_op)
  s_stop
  have hcomm : (execOp (Act.eval ⟨#[.pointer none, .int .i64 t, undef, undef, .bool false, .pointer none, .int .i64 t, .chan none, undef, undef, undef], []⟩)
      { dst := some 8, op := Op.select #[{ chan := Operand.tmp 7, send := none, elem := 77 }] false, type := 0, pos := "permit.go:59", after := #[], guard := none }).run Tryz.prog w = .ok (.comm #[rcaseNil tokV] false .select) w := by
    simp [go_sem, execOp, rcase, rcaseNil, Act.eval]
  refine LoneTo.step (step_lone_select_recv_nil (stepG_comm rfl rfl (by decide) hcomm)) ?_
  rw [Frame.finish_at]
  walk_nrm
  refine LoneTo.goes (n := 60) ?_
  repeat (first | s_c stepG_seq | s_c stepG_region_end | s_c stepG_skip | s_c stepG_block | s_c stepG_inBlock | s_reg | s_op)
  s_cond false
  repeat (first | s_c stepG_seq | s_c stepG_region_end | s_c stepG_skip | s_c stepG_block | s_c stepG_inBlock | s_reg | s_op)
  s_c stepG_ret'
  s_stop
  refine LoneTo.done ⟨.returned (.bool false), _, rfl, ⟨rfl, ?_⟩, rfl, rfl, rfl, rfl, _, Tryz.func125, by simp [results, Tryz.results125, Frame.at]⟩
  rfl
end Go.Proofs.YtpejmkoheodblaaGreat
