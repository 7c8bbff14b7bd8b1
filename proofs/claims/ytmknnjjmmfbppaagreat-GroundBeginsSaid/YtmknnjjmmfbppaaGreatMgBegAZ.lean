/- Package task: what a task is, by what it may yet do: what it is made of is told by how it answers when it is called. -/
import Derived.Test.YtmknnjjmmfbppaaGreatMgBegAS
import Derived.Test.YtmknnjjmmfbppaaGreatMgBegAY
import Derived.Test.YtmknnjjmmfbppaaGreatMgBegAU
namespace Go.Proofs.YtmknnjjmmfbppaaGreat
open Go.ChangeShapes Go.WideShapes Go.ChangeAt Go.RowKit
set_option linter.unusedVariables false
set_option maxRecDepth 100000
set_option linter.unusedSimpArgs false
/-- what operations are in memory -/
structure Ops (A : Type) where
  is : World → (Nat → Prop) → A → Value → Value → Prop
  keep : ∀ {w w1 : World} {Q Q' F : Nat → Prop} {x : A} {d p : Value}, is w Q x d p → Keep F w w1 → (∀ b, Q b → ¬ F b) → (∀ b, b < w.heap.size → Q b → Q' b) → is w1 Q' x d p
  op : ∀ {w : World} {Q : Nat → Prop} {x : A} {d p : Value}, is w Q x d p → (∃ F caps, d = cloV F caps ∧ p = .pointer none) ∨ ∃ q, d = .nilFunc ∧ p = pV q
/-- a task, and continuations behind it, are together this -/
def Behind {A : Type} (K : Nat → (Int → Tre A) → Prop) : List Nat → Tre A → Tre A → Prop
  | [], T, R => R = T
  | f :: fs, T, R => ∃ k κ, K f k ∧ R = bindT κ T ∧ ∀ v, Behind K fs (k v) (κ v)
theorem Behind.mono {A : Type} {K K' : Nat → (Int → Tre A) → Prop} (h : ∀ f k, K f k → K' f k) : ∀ (fs : List Nat) (T R : Tre A), Behind K fs T R → Behind K' fs T R
  | [], T, R, e => e
  | f :: fs, T, R, ⟨k, κ, h1, e, h2⟩ => ⟨k, κ, h f k h1, e, fun v => Behind.mono h fs _ _ (h2 v)⟩
theorem Behind.more {A : Type} {K : Nat → (Int → Tre A) → Prop} {f : Nat} {fs : List Nat} {k κ : Int → Tre A} (h1 : K f k) (h2 : ∀ v, Behind K fs (k v) (κ v)) : ∀ (gs : List Nat) (T R : Tre A), Behind K gs T R → Behind K (gs ++ f :: fs) T (bindT κ R)
  | [], T, R, e => ⟨k, κ, h1, by rw [show R = T from e], h2⟩
  | g :: gs, T, R, ⟨k1, κ1, g1, e, g2⟩ => ⟨k1, fun v => bindT κ (κ1 v), g1, by rw [e, bindT_assoc], fun v => Behind.more h1 h2 gs _ _ (g2 v)⟩
theorem Behind.op {A : Type} {K : Nat → (Int → Tre A) → Prop} {x : A} {g : Int → Tre A} {gs fs : List Nat} {R : Tre A} (h1 : ∀ v, Behind K gs (retT v) (g v)) (h2 : Behind K fs (opT x g) R) : ∃ g', R = opT x g' ∧ ∀ v, Behind K (gs ++ fs) (retT v) (g' v) := by
  cases fs with
  | nil => exact ⟨g, h2, fun v => by rw [List.append_nil]; exact h1 v⟩
  | cons f fs =>
    obtain ⟨k, κ, a, e, b⟩ := h2
    exact ⟨_, by rw [e, bindT_op], fun v => Behind.more a b gs _ _ (h1 v)⟩
/-- a task, or none, with what is behind it -/
def TaskT {A : Type} (O : Ops A) (K : Nat → (Int → Tre A) → Prop) (w : World) (Q : Nat → Prop) (n : Option Addr) (T : Tre A) : Prop :=
  (∃ v, T = retT v ∧ DoneV w n v) ∨ ∃ x κ k d p rest fs, T = opT x κ ∧ n = some ⟨k, 0, none⟩ ∧ Live w k d p rest ∧ TreeO w Q rest fs ∧ O.is w Q x d p ∧ ∀ v, Behind K fs (retT v) (κ v)
/-- the block of a task is of those of which Q is said -/
def InQ (Q : Nat → Prop) (n : Option Addr) : Prop := ∀ k, n = some ⟨k, 0, none⟩ → Q k
theorem TaskT.keep {A : Type} {O : Ops A} {K K' : Nat → (Int → Tre A) → Prop} {w w1 : World} {Q Q' F : Nat → Prop} {n : Option Addr} {T : Tre A} (h : TaskT O K w Q n T) (hK : ∀ f k, K f k → K' f k) (hk : Keep F w w1) (hd : ∀ b, Q b → ¬ F b) (hn : InQ (fun k => ¬ F k) n) (hq : ∀ b, b < w.heap.size → Q b → Q' b) : TaskT O K' w1 Q' n T := by
  rcases h with ⟨v, e, h⟩ | ⟨x, κ, k, d, p, rest, fs, e, rfl, h1, h2, h3, h4⟩
  · exact .inl ⟨v, e, h.keep hk hn⟩
  · refine .inr ⟨x, κ, k, d, p, rest, fs, e, rfl, h1.keep hk (hn k rfl), ?_, O.keep h3 hk hd hq, fun v => Behind.mono hK _ _ _ (h4 v)⟩
    exact ((h2.mono (Q' := fun b => Q b ∧ Q' b) fun b hb h => ⟨h, hq b hb h⟩).keep hk fun b h => hd b h.1).mono fun b _ h => h.2
/-- what is called when something is done: whatever has become of memory that is not its own -/
def ContS {A : Type} (O : Ops A) (K : World → (Nat → Prop) → Nat → (Int → Tre A) → Prop) (w : World) (Q : Nat → Prop) (f : Nat) (k : Int → Tre A) : Prop :=
  Q f ∧ f < w.heap.size ∧ ∀ v w1, Keep (fun b => ¬ Q b) w w1 → Calls Tryz.prog 135 #[.int .i64 v, pV f] w1 fun e w2 => ∃ n, e = .returned (.pointer n) ∧ Below w1.heap.size w1 w2 ∧
    TaskT O (K w2 fun b => (Q b ∧ b < w.heap.size) ∨ w1.heap.size ≤ b) w2 (fun b => (Q b ∧ b < w.heap.size) ∨ w1.heap.size ≤ b) n (k v) ∧ InQ (fun b => (Q b ∧ b < w.heap.size) ∨ w1.heap.size ≤ b) n
theorem ContS.mono {A : Type} {O : Ops A} {K K' : World → (Nat → Prop) → Nat → (Int → Tre A) → Prop} (hK : ∀ w Q f k, K w Q f k → K' w Q f k) {w : World} {Q : Nat → Prop} {f : Nat} {k : Int → Tre A} (h : ContS O K w Q f k) : ContS O K' w Q f k := by
  obtain ⟨h1, h2, h3⟩ := h
  refine ⟨h1, h2, fun v w1 hw => (h3 v w1 hw).mono ?_⟩
  rintro e w2 ⟨n, rfl, h4, h5, h6⟩
  exact ⟨n, rfl, h4, h5.keep (fun f k h => hK _ _ f k h) (Keep.refl (fun _ => False) w2) (fun _ _ h => h) (fun _ _ h => h) (fun _ _ h => h), h6⟩
/-- a continuation: the greatest there is -/
def ContT {A : Type} (O : Ops A) (w : World) (Q : Nat → Prop) (f : Nat) (k : Int → Tre A) : Prop :=
  ∃ K : World → (Nat → Prop) → Nat → (Int → Tre A) → Prop, (∀ w Q f k, K w Q f k → ContS O K w Q f k) ∧ K w Q f k
theorem ContT.unfold {A : Type} {O : Ops A} {w : World} {Q : Nat → Prop} {f : Nat} {k : Int → Tre A} (h : ContT O w Q f k) : ContS O (ContT O) w Q f k := by
  obtain ⟨K, h1, h2⟩ := h
  exact (h1 w Q f k h2).mono fun w Q f k h => ⟨K, h1, h⟩
theorem ContT.fold {A : Type} {O : Ops A} {w : World} {Q : Nat → Prop} {f : Nat} {k : Int → Tre A} (h : ContS O (ContT O) w Q f k) : ContT O w Q f k :=
  ⟨ContS O (ContT O), fun w Q f k h => h.mono fun w Q f k h => h.unfold, h⟩
theorem ContT.keep {A : Type} {O : Ops A} {w w1 : World} {Q Q' F : Nat → Prop} {f : Nat} {k : Int → Tre A} (h : ContT O w Q f k) (hk : Keep F w w1) (hd : ∀ b, Q b → ¬ F b) (hq : ∀ b, b < w.heap.size → Q b → Q' b) : ContT O w1 Q' f k := by
  refine ⟨fun w1 Q' f k => ∃ w Q F, ContT O w Q f k ∧ Keep F w w1 ∧ (∀ b, Q b → ¬ F b) ∧ ∀ b, b < w.heap.size → Q b → Q' b, ?_, w, Q, F, h, hk, hd, hq⟩
  rintro w1 Q' f k ⟨w, Q, F, h, hk, hd, hq⟩
  obtain ⟨h1, h2, h3⟩ := h.unfold
  have hs := hk.size
  refine ⟨hq f h2 h1, Nat.lt_of_lt_of_le h2 hs, fun v w2 hw => ?_⟩
  have hK : Keep (fun b => ¬ Q b) w w2 := ⟨hw.os.trans hk.os, hw.tape.trans hk.tape, hw.output.trans hk.output, Nat.le_trans hs hw.size, fun b hb hn => by
    have hQ : Q b := Classical.not_not.1 hn
    rw [hw.block b (by omega) (fun h => h (hq b hb hQ)), hk.block b hb (hd b hQ)]⟩
  refine (h3 v w2 hK).mono ?_
  rintro e w3 ⟨n, rfl, h4, h5, h6⟩
  have hqq : ∀ b, (Q b ∧ b < w.heap.size) ∨ w2.heap.size ≤ b → (Q' b ∧ b < w1.heap.size) ∨ w2.heap.size ≤ b := fun b hb => hb.imp (fun h => ⟨hq b h.2 h.1, by omega⟩) id
  refine ⟨n, rfl, h4, h5.keep (fun f k h => ⟨w3, _, fun _ => False, h, Keep.refl _ _, fun _ _ h => h, fun b _ h => hqq b h⟩) (Keep.refl (fun _ => False) w3) (fun _ _ h => h) (fun _ _ h => h) (fun b _ h => hqq b h), fun k e => hqq k (h6 k e)⟩
theorem ContT.own {A : Type} {O : Ops A} {w : World} {Q : Nat → Prop} {f : Nat} {k : Int → Tre A} (h : ContT O w Q f k) : Q f ∧ f < w.heap.size := ⟨h.unfold.1, h.unfold.2.1⟩
/-- a task, with all that is behind it -/
abbrev TaskF {A : Type} (O : Ops A) (w : World) (Q : Nat → Prop) (n : Option Addr) (T : Tre A) : Prop := TaskT O (ContT O w Q) w Q n T
theorem TaskF.keep {A : Type} {O : Ops A} {w w1 : World} {Q Q' F : Nat → Prop} {n : Option Addr} {T : Tre A} (h : TaskF O w Q n T) (hk : Keep F w w1) (hd : ∀ b, Q b → ¬ F b) (hn : InQ (fun k => ¬ F k) n) (hq : ∀ b, b < w.heap.size → Q b → Q' b) : TaskF O w1 Q' n T :=
  TaskT.keep h (fun _ _ h => h.keep hk hd hq) hk hd hn hq
theorem Behind.keep {A : Type} {O : Ops A} {w w1 : World} {Q Q' F : Nat → Prop} {fs : List Nat} {T R : Tre A} (h : Behind (ContT O w Q) fs T R) (hk : Keep F w w1) (hd : ∀ b, Q b → ¬ F b) (hq : ∀ b, b < w.heap.size → Q b → Q' b) : Behind (ContT O w1 Q') fs T R :=
  Behind.mono (fun _ _ h => h.keep hk hd hq) _ _ _ h
theorem TaskT.lt {A : Type} {O : Ops A} {K : Nat → (Int → Tre A) → Prop} {w : World} {Q : Nat → Prop} {k : Nat} {T : Tre A} (h : TaskT O K w Q (some ⟨k, 0, none⟩) T) : k < w.heap.size := by
  rcases h with ⟨v, e, h⟩ | ⟨x, κ, k', d, p, rest, fs, e, e2, h1, _⟩
  · rcases h with ⟨h, _⟩ | ⟨k', e2, h⟩
    · cases h
    · injection e2 with e2; injection e2 with e2; rw [e2]; exact h.lt
  · injection e2 with e2; injection e2 with e2; rw [e2]; exact h1.blk.lt
/-- calls that recover, of functions that may hand back none -/
theorem answerP_any (F : Nat) (caps : Array Value) (w : World) (R : Option Addr → World → Prop)
    (hcall : ∀ (W : World) (args : Array Value), (callFunc F args).run Tryz.prog W = .ok (.enter F args) W)
    (h : Calls Tryz.prog F caps w fun e w' => ∃ t, e = .returned (.pointer t) ∧ R t w') :
    Calls Tryz.prog 132 #[cloV F caps] w fun e w' => ∃ t, e = .returned (.pointer t) ∧ R t w' := by
  have HH := Lib.hid h
  clear h
  go_enter_defers Tryz.func132, Tryz.ntmps132
  go_wp2_with fail
  refine HH.out.mono ?_
  rintro e w1 ⟨v, rfl, hp⟩
  go_wp2_with fail
  refine leaves_cons (f := 195) (args := #[]) (by simp) (by simp [go_sem]) ?_
  refine (catchT_idle _).mono ?_
  rintro e u' w'' ⟨rfl, rfl, rfl⟩
  simp [Leaves, settle, results, Tryz.results132, go_sem]
  exact hp
theorem then11P_any (f bv G : Nat) (caps : Array Value) (v : Int) (w : World) (R : Option Addr → World → Prop) (hf : Blk w f 157 #[cloV G caps]) (hv : Blk w bv 3 #[.int .i64 v])
    (hcall : ∀ (W : World) (args : Array Value), (callFunc G args).run Tryz.prog W = .ok (.enter G args) W)
    (hG : Calls Tryz.prog G (#[.int .i64 v] ++ caps) w fun e w' => ∃ t, e = .returned (.pointer t) ∧ R t w') :
    Calls Tryz.prog 136 #[pV f, pV bv] w fun e w' => ∃ t, e = .returned (.pointer t) ∧ R t w' := by
  have c0 : w.cell? ⟨f, 0, none⟩ = some (cloV G caps) := hf.cell 0 _ rfl
  have c1 : w.cell? ⟨bv, 0, none⟩ = some (.int .i64 v) := hv.cell 0 _ rfl
  have HG := Lib.hid hG
  clear hG hf hv
  go_enter Tryz.func136, Tryz.ntmps136
  go_wp2_with fail
  refine HG.out.mono ?_
  rintro e w2 ⟨t, rfl, hR⟩
  go_wp2_with fail
  go_ret
  exact ⟨t, rfl, hR⟩
theorem then1P_any (f G : Nat) (caps : Array Value) (v : Int) (w : World) (R : Option Addr → World → Prop) (hf : Blk w f 157 #[cloV G caps])
    (hcall : ∀ (W : World) (args : Array Value), (callFunc G args).run Tryz.prog W = .ok (.enter G args) W)
    (hG : ∀ w1, Below w.heap.size w w1 → Calls Tryz.prog G (#[.int .i64 v] ++ caps) w1 fun e w' => ∃ t, e = .returned (.pointer t) ∧ R t w') :
    Calls Tryz.prog 135 #[.int .i64 v, pV f] w fun e w' => ∃ t, e = .returned (.pointer t) ∧ R t w' := by
  have hmf : ∀ (fn : Fn) (first cap : Array Value) (w : World), (Instr.makeFunc fn first cap).run Tryz.prog w = .ok (.func fn first cap) w := fun _ _ _ _ => rfl
  have HH := Lib.hid fun W hb hv => answerP_any 136 #[pV f, pV w.heap.size] W R call_then11 (then11P_any f w.heap.size G caps v W R (hf.below hb hf.lt) hv hcall (hG W hb))
  clear hG hf hcall
  go_enter Tryz.func135, Tryz.ntmps135
  go_upto_region 1 with fail
  generalize hW : (w.alloc _) = W
  have bW : Below w.heap.size w W := by rw [← hW]; go_grown
  have q0 : Blk W w.heap.size 3 #[.int .i64 v] := by rw [← hW]; exact Blk.new w _ _
  clear hW
  have HA := Lib.hid (HH.out W bW q0)
  go_wp2_with (go_at_call 132; refine HA.out.mono ?_; rintro e w2 ⟨t, rfl, hR⟩)
  go_ret
  exact ⟨t, rfl, hR⟩
/-- of a closure in a box -/
theorem contT_of {A : Type} (O : Ops A) (w : World) (Q : Nat → Prop) (f G : Nat) (caps : Array Value) (k : Int → Tre A) (hq : Q f) (hf : Blk w f 157 #[cloV G caps])
    (hcall : ∀ (W : World) (args : Array Value), (callFunc G args).run Tryz.prog W = .ok (.enter G args) W)
    (hG : ∀ v w1, Keep (fun b => ¬ Q b) w w1 → Calls Tryz.prog G (#[.int .i64 v] ++ caps) w1 fun e w' => ∃ t, e = .returned (.pointer t) ∧ Below w1.heap.size w1 w' ∧
      TaskF O w' (fun b => (Q b ∧ b < w.heap.size) ∨ w1.heap.size ≤ b) t (k v) ∧ InQ (fun b => (Q b ∧ b < w.heap.size) ∨ w1.heap.size ≤ b) t) : ContT O w Q f k := by
  refine ContT.fold ⟨hq, hf.lt, fun v w1 hw => ?_⟩
  refine then1P_any f G caps v w1 (fun t w' => Below w1.heap.size w1 w' ∧ TaskF O w' (fun b => (Q b ∧ b < w.heap.size) ∨ w1.heap.size ≤ b) t (k v) ∧ InQ (fun b => (Q b ∧ b < w.heap.size) ∨ w1.heap.size ≤ b) t) (hf.keep hw (fun h => h hq)) hcall fun w2 hb => ?_
  have hs := hb.size
  refine (hG v w2 (hw.step (Q' := fun _ => False) (Keep.ofBelow hb) (fun _ _ h => h.elim))).mono ?_
  rintro e w' ⟨t, rfl, h1, h2, h3⟩
  have hqq : ∀ b, (Q b ∧ b < w.heap.size) ∨ w2.heap.size ≤ b → (Q b ∧ b < w.heap.size) ∨ w1.heap.size ≤ b := fun b hb => hb.imp id (fun h => by omega)
  exact ⟨t, rfl, hb.trans (h1.mono hs), h2.keep (Keep.refl (fun _ => False) w') (fun _ _ h => h) (fun _ _ h => h) (fun b _ h => hqq b h), fun k e => hqq k (h3 k e)⟩
end Go.Proofs.YtmknnjjmmfbppaaGreat
/- Package permit, for one goroutine alone: Take of a thread that has no permit leaves the world as it was. -/
namespace Go.Proofs.YtmknnjjmmfbppaaGreat
open Go.ChangeShapes Go.WideShapes Go.ChangeAt Go.RowKit Go.Conc
set_option linter.unusedVariables false
set_option maxRecDepth 100000
set_option linter.unusedSimpArgs false
theorem ChanAt.apart {w : World} {a c : Nat} {t : TypeId} {xs : Array Value} {b : Bool} (h1 : ChanAt w c b) (h2 : Blk w a t xs) : c ≠ a := by
  rintro rfl
  obtain ⟨s, r, h⟩ := h1
  rw [show w.heap[c]? = _ from h2] at h
  cases h
theorem take_empty (P S : Nat) (cs : List Nat) (l : List Bool) (t : Nat) (w : World) (hP : PermitsAt w P S cs l) (hb : l[t]? = some false) :
    Calls Tryz.prog 213 #[permitsV P, .int .i64 t] w fun e w' => e = .returned (.bool false) ∧ w = w' := by
  obtain ⟨c, hc⟩ := chan_for hP hb
  have ho := of_any P S cs l t c w hP hc
  obtain ⟨s, r, hch⟩ := hP.chan t c false hc hb
  refine calls_of_loneTo fun cs' => ?_
  have e : Frame.enter Tryz.prog 213 #[permitsV P, .int .i64 t] .normal = (base 213).at ⟨#[permitsV P, .int .i64 t] ++ Array.replicate (Tryz.f213.ntmps - 2) undef, []⟩ [.code (Tryz.f213.body.getD .skip)] := by
    rw [enter_at _ Tryz.func213 rfl]; rfl
  rw [e]
  refine LoneTo.goes (n := 60) ?_
  simp only [Tryz.f213, Option.getD_some]
  walk_nrm
  repeat (first | s_c stepG_seq | s_c stepG_region_end | s_c stepG_skip | s_c stepG_block | s_c stepG_inBlock | s_reg | s_op)
  s_stop
  refine LoneTo.call (f := 95) (fn := Tryz.f95) rfl rfl (by decide) rfl Tryz.func95 (by kernel_rfl) (by kernel_rfl) ?_ ho ?_
  · walk_nrm
  rintro e1 w1 ⟨rfl, rfl⟩
  refine ⟨_, rfl, ?_⟩
  walk_nrm
  refine LoneTo.goes (n := 60) ?_
  repeat (first | s_c stepG_seq | s_c stepG_region_end | s_c stepG_skip | s_c stepG_block | s_c stepG_inBlock | s_reg | s_op)
  s_stop
  have hcomm : (execOp (Act.eval ⟨#[permitsV P, .int .i64 t, undef, undef, .bool false, permitsV P, .int .i64 t, .chan (some c), undef, undef, undef], []⟩)
      { dst := some 8, op := Op.select #[{ chan := Operand.tmp 7, send := none, elem := 38 }] false, type := 0, pos := "permit.go:59", after := #[], guard := none }).run Tryz.prog w = .ok (.comm #[rcase c tokV] false .select) w := by
    simp [go_sem, execOp, rcase, rcaseNil, Act.eval]
  refine LoneTo.step (step_lone_select_default (c := c) (cap := 1) (s := s) (r := r) (tm := false) (stepG_comm rfl rfl (by decide) hcomm) hch) ?_
  rw [Frame.finish_at]
  walk_nrm
  refine LoneTo.goes (n := 60) ?_
  repeat (first | s_c stepG_seq | s_c stepG_region_end | s_c stepG_skip | s_c stepG_block | s_c stepG_inBlock | s_reg | s_op)
  s_cond false
  repeat (first | s_c stepG_seq | s_c stepG_region_end | s_c stepG_skip | s_c stepG_block | s_c stepG_inBlock | s_reg | s_op)
  s_c stepG_ret'
  s_stop
  refine LoneTo.done ⟨.returned (.bool false), _, rfl, ⟨rfl, ?_⟩, rfl, rfl, rfl, rfl, _, Tryz.func213, by simp [results, Tryz.results213, Frame.at]⟩
  rfl
end Go.Proofs.YtmknnjjmmfbppaaGreat
