/- The document's automaton: events (what a thread may have next, perhaps). -/
import Derived.Test.YtcgljmeppmdihaaRsN
namespace Go.Proofs.Ytcgljmeppmdihaa
open Go.ChangeShapes Go.WideShapes Go.ChangeAt Go.RowKit
set_option linter.unusedVariables false
set_option maxRecDepth 100000
set_option linter.unusedSimpArgs false
/-- a struct that lies in a row is loaded -/
theorem run_load_at {P : Program} (w : World) (a : Addr) (ty : TypeId) (cs : List Value) (d : TypeDesc) (h : ∀ j v, cs[j]? = some v → w.cell? (a.add j) = some v)
    (hu : P.underlying ty = some d) (hd : (match d with | .struct _ | .array _ _ => true | _ => false) = true) (hi : (P.info? ty).map (·.size) = some cs.length) :
    (loadVar ty a).run P w = .ok (.agg cs.toArray) w := by
  have hl := run_loadCells_list (P := P) w a cs h
  cases hp : P.info? ty with
  | none => rw [hp] at hi; cases hi
  | some i =>
    rw [hp] at hi
    have hs : i.size = cs.length := by simpa using hi
    have hag : (isAgg ty).run P w = .ok true w := by
      unfold isAgg
      rw [Sem.run_bind, run_underlying hu w]
      cases d <;> simp_all
    simp [loadVar, Sem.run_bind, hag, sizeOf, typeInfo, hp, hs, hl]
theorem wpList_load_at {P : Program} {ops : Array Oper} {rest : List Oper} {o : Oper} {a : Act} {w : World} {Q : Exit → Act → World → Prop} (hgd : o.guard = none) (ty : TypeId) (x : Operand) (ho : o.op = .load ty x)
    (ad : Addr) (hx : a.eval x = .pointer (some ad)) (cs : List Value) (d : TypeDesc) (h : ∀ j v, cs[j]? = some v → w.cell? (ad.add j) = some v)
    (hu : P.underlying ty = some d) (hd : (match d with | .struct _ | .array _ _ => true | _ => false) = true) (hi : (P.info? ty).map (·.size) = some cs.length)
    (hK : wpList P ops Q rest (a.put o.dst (.agg cs.toArray)) w) : wpList P ops Q (o :: rest) a w := by
  refine wpList_plain hgd fun K hk => ?_
  unfold Oper.wp execOp
  simp only [ho, hx, Instr.loadAt, Instr.sureAddr, Sem.run_bind, Sem.run_pure, Result.andThen_ok, run_load_at w ad ty cs d h hu hd hi]
  exact hk _ _ hK
/-- a row of events that is read: as many as there are -/
def EvRow (w : World) (v : Value) (n : Nat) : Prop := ∃ (g cap : Nat) (l : List Ev), v = .slice (some ⟨g, 0, none⟩) n cap ∧ l.length = n ∧ EvsAt w g 0 l ∧ g < w.heap.size
theorem evl_len (e : Ev) : (evL e).length = 8 := rfl
theorem revs_info : (Try.prog.info? 37).map (fun i => (i.zero, i.size, i.bytes)) = some (some (.agg (evC ⟨0, 0, 0, 0, 0, 0, 0, 0⟩)), 8, 64) := by kernel_rfl
theorem evs_snoc (l : List Ev) (e : Ev) : l.flatMap evL ++ evL e = (l ++ [e]).flatMap evL := by rw [List.flatMap_append]; simp
theorem rthr_size (x : RTh) : (Try.prog.info? 91).map (·.size) = some (rthC x).length := by kernel_rfl
theorem evnew (W : World) (e : Ev) (j : Nat) (u : Value) (hj : (evL e)[j]? = some u) : (W.alloc (.cells (evC e) 37)).cell? ((⟨W.heap.size, 0, none⟩ : Addr).add j) = some u := by
  rw [Go.WideShapes.add_plain, Nat.zero_add]
  exact (Blk.new W 37 (evC e)).cell j u (by simpa [evL] using hj)
theorem evrow_own {w : World} {N g n cap : Nat} {l : List Ev} (h : w.ownsRow N 37 8 (.slice (some ⟨g, 0, none⟩) n cap) n (l.flatMap evL)) : EvRow w (.slice (some ⟨g, 0, none⟩) n cap) n := by
  have hl : ∀ l : List Ev, (l.flatMap evL).length = l.length * 8 := fun l => by
    induction l with
    | nil => rfl
    | cons a l ih => rw [List.flatMap_cons, List.length_append, ih, evl_len, List.length_cons]; omega
  refine ⟨g, cap, l, rfl, ?_, fun i e he j v hv => ?_, (row_lt h rfl).1⟩
  · have := h.1
    rw [hl] at this
    omega
  · have := h.cells (g := g) rfl (i * 8 + j) v (flat8 l i e he j v hv)
    rw [Go.WideShapes.add_plain] at this
    rw [← this]
    congr 2
    omega
theorem evone (e : Ev) : ∀ u ∈ evL e, u.oneCell' = true := fun u hu => by
  simp [evL] at hu
  rcases hu with rfl | rfl | rfl | rfl | rfl | rfl | rfl | rfl <;> rfl
set_option maxHeartbeats 4000000 in
theorem revents_any {w : World} {p : RPl} {s : RS} (h : RsAt w p s) {t : Nat} (xcalls : Int) (xopn : Bool) (xop xobj xarg xfar xcode xval : Int) (xflag : Bool) (xsaved xsince : Int) (hx : s.T[t]? = some ⟨xcalls, xopn, xop, xobj, xarg, xfar, xcode, xval, xflag, xsaved, xsince⟩) :
    Calls Try.prog 42 #[rspV p, .int .i64 (t : Int)] w fun e w' => ∃ v n, e = .returned v ∧ EvRow w' v n ∧ 1 ≤ n ∧ n ≤ 1000 ∧ Below w.heap.size w w' := by
  obtain ⟨iE, hzE, hsE, hbE, hcE⟩ := info_parts revs_info
  have c2 := h.c.c2
  have it := idx_rthrs p.T s.T.length p.cT t (List.getElem?_eq_some_iff.1 hx).1
  have HX := Lib.hid hx
  have HC := Lib.hid (show ∀ j v, ([.int .i64 xcalls, .bool xopn, .int .i64 xop, .int .i64 xobj, .int .i64 xarg, .int .i64 xfar, .int .i64 xcode, .int .i64 xval, .bool xflag, .int .i64 xsaved, .int .i64 xsince] : List Value)[j]? = some v → w.cell? ((⟨p.T, t * 11, none⟩ : Addr).add j) = some v from fun j v hj => by rw [Go.WideShapes.add_plain]; exact h.th.cell hx j v hj)
  have hhsz : Hid ((Try.prog.info? 91).map (·.size) = some 11) := Lib.hid (by kernel_rfl)
  have hone : Hid ((#[.int .i64 xcalls, .bool xopn, .int .i64 xop, .int .i64 xobj, .int .i64 xarg, .int .i64 xfar, .int .i64 xcode, .int .i64 xval, .bool xflag, .int .i64 xsaved, .int .i64 xsince] : Array Value).all (·.oneCell') = true) := Lib.hid (by simp [Value.oneCell'])
  clear h hx
  go_enter Try.func42, Try.ntmps42
  go_upto_region 2 with (first
    | (refine wpList_load_at rfl 91 _ rfl ⟨p.T, t * 11, none⟩ rfl [.int .i64 xcalls, .bool xopn, .int .i64 xop, .int .i64 xobj, .int .i64 xarg, .int .i64 xfar, .int .i64 xcode, .int .i64 xval, .bool xflag, .int .i64 xsaved, .int .i64 xsince] _ HC.out Try.underlying91 rfl hhsz.out ?_)
    | (refine wpList_store_row rfl 91 _ _ rfl w.heap.size #[.int .i64 xcalls, .bool xopn, .int .i64 xop, .int .i64 xobj, .int .i64 xarg, .int .i64 xfar, .int .i64 xcode, .int .i64 xval, .bool xflag, .int .i64 xsaved, .int .i64 xsince] rfl rfl 91 #[.int .i64 0, .bool false, .int .i64 0, .int .i64 0, .int .i64 0, .int .i64 0, .int .i64 0, .int .i64 0, .bool false, .int .i64 0, .int .i64 0] (Blk.new w _ _) hhsz.out rfl hone.out ?_; (try simp only [Act.put, List.setIfInBounds_toArray, List.set_cons_zero, List.set_cons_succ])))
  rw [World.setRow_alloc_new]
  have qo : Blk (w.alloc (.cells #[.int .i64 xcalls, .bool xopn, .int .i64 xop, .int .i64 xobj, .int .i64 xarg, .int .i64 xfar, .int .i64 xcode, .int .i64 xval, .bool xflag, .int .i64 xsaved, .int .i64 xsince] 91)) w.heap.size 91 #[.int .i64 xcalls, .bool xopn, .int .i64 xop, .int .i64 xobj, .int .i64 xarg, .int .i64 xfar, .int .i64 xcode, .int .i64 xval, .bool xflag, .int .i64 xsaved, .int .i64 xsince] := Blk.new _ _ _
  have b1 : Below w.heap.size w (w.alloc (.cells #[.int .i64 xcalls, .bool xopn, .int .i64 xop, .int .i64 xobj, .int .i64 xarg, .int .i64 xfar, .int .i64 xcode, .int .i64 xval, .bool xflag, .int .i64 xsaved, .int .i64 xsince] 91)) := (Below.refl _ _).alloc (Nat.le_refl _) _
  generalize hW : w.alloc _ = W at qo b1 ⊢
  obtain ⟨bo, hbo⟩ : ∃ bo, bo = w.heap.size := ⟨_, rfl⟩
  rw [← hbo] at qo ⊢
  have a4 := qo.cell 4 _ rfl
  clear hW hbo c2 it HC hhsz hone
  go_upto_region 4 with fail
  have q3 := qo.alloc (.cells #[.int .i64 0, .int .i64 (-1), .int .i64 1, .int .i64 2, .int .i64 3, .int .i64 4, .int .i64 5, .int .i64 3, .int .i64 xarg] 3)
  have t3 : Blk (W.alloc (.cells #[.int .i64 0, .int .i64 (-1), .int .i64 1, .int .i64 2, .int .i64 3, .int .i64 4, .int .i64 5, .int .i64 3, .int .i64 xarg] 3)) W.heap.size 3 #[.int .i64 0, .int .i64 (-1), .int .i64 1, .int .i64 2, .int .i64 3, .int .i64 4, .int .i64 5, .int .i64 3, .int .i64 xarg] := Blk.new _ _ _
  have b3 : Below w.heap.size w (W.alloc (.cells #[.int .i64 0, .int .i64 (-1), .int .i64 1, .int .i64 2, .int .i64 3, .int .i64 4, .int .i64 5, .int .i64 3, .int .i64 xarg] 3)) := b1.alloc b1.size _
  generalize hW : W.alloc _ = W3 at q3 t3 b3 ⊢
  obtain ⟨bt, hbt⟩ : ∃ bt, bt = W.heap.size := ⟨_, rfl⟩
  rw [← hbt] at t3 ⊢
  have HQ := Lib.hid q3
  have HT := Lib.hid t3
  have HB := Lib.hid b3
  clear hW hbt a4 qo b1 q3 t3 b3
  go_upto_region 5 with fail
  go_loopw [6, 8] (fun v6 v8 wr => ∃ (a n : Nat) (l : List Ev), a ≤ 11 ∧ n = a * 9 ∧ v8 = .int .i64 (a : Int) ∧ wr.ownsRow W3.heap.size 37 8 v6 n (l.flatMap evL) ∧ Below W3.heap.size W3 wr) (fun _ v8 _ => 11 - (intOf v8).toNat)
  case atStart => exact ⟨0, 0, [], by omega, rfl, rfl, World.ownsRow_nil _ _ _ _, Below.refl _ _⟩
  case round =>
    obtain ⟨a, n, l, ha, hn, rfl, hrow, hbr⟩ := hrel
    have HR := Lib.hid hrow
    have HBR := Lib.hid hbr
    have hsr := hbr.size
    have HNn := Lib.hid hn
    have hnb : n ≤ 200 := by omega
    clear hrow hbr hn
    by_cases hlt : a < 11
    · have haI : (a : Int) < 11 := by omega
      go_upto_region 8 with fail
      go_loopw [6, 9] (fun v6 v9 wr => ∃ (i n : Nat) (l : List Ev), i ≤ 9 ∧ n = a * 9 + i ∧ v9 = .int .i64 (i : Int) ∧ wr.ownsRow W3.heap.size 37 8 v6 n (l.flatMap evL) ∧ Below W3.heap.size W3 wr) (fun _ v9 _ => 9 - (intOf v9).toNat)
      case atStart => exact ⟨0, n, l, by omega, by have := HNn.out; omega, rfl, HR.out, HBR.out⟩
      case round =>
        clear HR HBR hsr HNn hnb
        obtain ⟨i, n, l, hi, hn, rfl, hrow, hbr⟩ := hrel
        have HR := Lib.hid hrow
        have HBR := Lib.hid hbr
        have hsr := hbr.size
        have HNn := Lib.hid hn
        have hnb : n ≤ 200 := by omega
        clear hrow hbr hn
        by_cases hil : i < 9
        · have hiI : (i : Int) < 9 := by omega
          obtain ⟨ov, hov⟩ : ∃ ov : Int, (#[.int .i64 0, .int .i64 (-1), .int .i64 1, .int .i64 2, .int .i64 3, .int .i64 4, .int .i64 5, .int .i64 3, .int .i64 xarg] : Array Value)[i]? = some (.int .i64 ov) := by
            have h9 : i = 0 ∨ i = 1 ∨ i = 2 ∨ i = 3 ∨ i = 4 ∨ i = 5 ∨ i = 6 ∨ i = 7 ∨ i = 8 := by omega
            rcases h9 with rfl | rfl | rfl | rfl | rfl | rfl | rfl | rfl | rfl <;> exact ⟨_, rfl⟩
          have SK := Lib.hid (show ∀ V, Below W3.heap.size W3 V → V.cell? ⟨bo, 3, none⟩ = some (.int .i64 xobj) ∧ V.cell? ⟨bt, i, none⟩ = some (.int .i64 ov) from fun V hV => ⟨(HQ.out.below hV HQ.out.lt).cell 3 _ rfl, (HT.out.below hV HT.out.lt).cell i _ hov⟩)
          have ix := idx_rints bt 9 9 i hil
          have bd3 : Below W3.heap.size W3 wr.drew := HBR.out.trans ((rdrew wr).mono hsr)
          have HRd := Lib.hid (show wr.drew.ownsRow W3.heap.size 37 8 u6 n (l.flatMap evL) from row_ownkeep HR.out (Keep.refl (fun _ => False) wr).drew (fun _ _ h => h))
          have hsd : W3.heap.size ≤ wr.drew.heap.size := hsr
          clear hov HR
          go_upto_region 10 with fail
          refine wp_region_held_drew (S := (fun (V : World) => V.cell? ⟨bo, 3, none⟩ = some (.int .i64 xobj) ∧ V.cell? ⟨bt, i, none⟩ = some (.int .i64 ov))) (by kernel_rfl) (SK.out _ bd3) (fun hHeld => ?_)
          generalize hWd : wr.drew = Wd at bd3 HRd hsd hHeld ⊢
          clear hWd
          refine wpAnyH_take (i := 0) (oi := { dst := some 31, op := Op.move (Operand.tmp 6), type := 31, pos := "kit.go:19", after := #[], guard := none }) (v := ?_) rfl (by kernel_rfl) (by kernel_rfl) (by kernel_rfl) (fun _ _ _ h => h) (Or.inl ⟨by rfl, ?_⟩) (by assumption) ?_
          rotate_left
          · intro w hSw; (try dsimp only at hSw); go_simp; try with_reducible rfl
          (try simp only [Act.put, List.setIfInBounds_toArray, List.set_cons_zero, List.set_cons_succ])
          refine wpAnyH_take (i := 1) (oi := { dst := some 32, op := Op.move (Operand.tmp 1), type := 3, pos := "kit.go:19", after := #[], guard := none }) (v := ?_) rfl (by kernel_rfl) (by kernel_rfl) (by kernel_rfl) (fun _ _ _ h => h) (Or.inl ⟨by rfl, ?_⟩) (by assumption) ?_
          rotate_left
          · intro w hSw; (try dsimp only at hSw); go_simp; try with_reducible rfl
          (try simp only [Act.put, List.setIfInBounds_toArray, List.set_cons_zero, List.set_cons_succ])
          refine wpAnyH_take (i := 2) (oi := { dst := some 33, op := Op.move (Operand.tmp 8), type := 3, pos := "kit.go:19", after := #[], guard := none }) (v := ?_) rfl (by kernel_rfl) (by kernel_rfl) (by kernel_rfl) (fun _ _ _ h => h) (Or.inl ⟨by rfl, ?_⟩) (by assumption) ?_
          rotate_left
          · intro w hSw; (try dsimp only at hSw); go_simp; try with_reducible rfl
          (try simp only [Act.put, List.setIfInBounds_toArray, List.set_cons_zero, List.set_cons_succ])
          refine wpAnyH_take (i := 3) (oi := { dst := some 34, op := Op.fieldAddr 91 (Operand.tmp 5) 2, type := 0, pos := "kit.go:19", after := #[], guard := none }) (v := ?_) rfl (by kernel_rfl) (by kernel_rfl) (by kernel_rfl) (fun _ _ _ h => h) (Or.inl ⟨by rfl, ?_⟩) (by assumption) ?_
          rotate_left
          · intro w hSw; (try dsimp only at hSw); go_simp; try with_reducible rfl
          (try simp only [Act.put, List.setIfInBounds_toArray, List.set_cons_zero, List.set_cons_succ])
          refine wpAnyH_take (i := 4) (oi := { dst := some 35, op := Op.fieldAddr 70 (Operand.tmp 34) 1, type := 0, pos := "kit.go:19", after := #[{ on := 3, ground := Ground.data }], guard := none }) (v := ?_) rfl (by kernel_rfl) (by kernel_rfl) (by kernel_rfl) (fun _ _ _ h => h) (Or.inl ⟨by rfl, ?_⟩) (by assumption) ?_
          rotate_left
          · intro w hSw; (try dsimp only at hSw); go_simp; try with_reducible rfl
          (try simp only [Act.put, List.setIfInBounds_toArray, List.set_cons_zero, List.set_cons_succ])
          refine wpAnyH_take (i := 5) (oi := { dst := some 36, op := Op.load 3 (Operand.tmp 35), type := 3, pos := "kit.go:19", after := #[{ on := 4, ground := Ground.data }], guard := none }) (v := ?_) rfl (by kernel_rfl) (by kernel_rfl) (by kernel_rfl) (fun _ _ _ h => h) (Or.inl ⟨by rfl, ?_⟩) (by assumption) ?_
          rotate_left
          · intro w hSw; (try dsimp only at hSw); go_simp; try with_reducible rfl
          (try simp only [Act.put, List.setIfInBounds_toArray, List.set_cons_zero, List.set_cons_succ])
          refine wpAnyH_take (i := 6) (oi := { dst := some 37, op := Op.move (Operand.tmp 7), type := 30, pos := "kit.go:19", after := #[], guard := none }) (v := ?_) rfl (by kernel_rfl) (by kernel_rfl) (by kernel_rfl) (fun _ _ _ h => h) (Or.inl ⟨by rfl, ?_⟩) (by assumption) ?_
          rotate_left
          · intro w hSw; (try dsimp only at hSw); go_simp; try with_reducible rfl
          (try simp only [Act.put, List.setIfInBounds_toArray, List.set_cons_zero, List.set_cons_succ])
          refine wpAnyH_take (i := 7) (oi := { dst := some 38, op := Op.move (Operand.tmp 9), type := 3, pos := "kit.go:19", after := #[], guard := none }) (v := ?_) rfl (by kernel_rfl) (by kernel_rfl) (by kernel_rfl) (fun _ _ _ h => h) (Or.inl ⟨by rfl, ?_⟩) (by assumption) ?_
          rotate_left
          · intro w hSw; (try dsimp only at hSw); go_simp; try with_reducible rfl
          (try simp only [Act.put, List.setIfInBounds_toArray, List.set_cons_zero, List.set_cons_succ])
          refine wpAnyH_take (i := 8) (oi := { dst := some 39, op := Op.indexAddr 30 (Operand.tmp 37) (Operand.tmp 38), type := 0, pos := "kit.go:19", after := #[{ on := 6, ground := Ground.data }, { on := 7, ground := Ground.data }], guard := none }) (v := ?_) rfl (by kernel_rfl) (by kernel_rfl) (by kernel_rfl) (fun _ _ _ h => h) (Or.inl ⟨by rfl, ?_⟩) (by assumption) ?_
          rotate_left
          · intro w hSw; (try dsimp only at hSw); go_simp; try with_reducible rfl
          (try simp only [Act.put, List.setIfInBounds_toArray, List.set_cons_zero, List.set_cons_succ])
          refine wpAnyH_take (i := 9) (oi := { dst := some 40, op := Op.load 3 (Operand.tmp 39), type := 3, pos := "kit.go:19", after := #[{ on := 8, ground := Ground.data }], guard := none }) (v := ?_) rfl (by kernel_rfl) (by kernel_rfl) (by kernel_rfl) (fun _ _ _ h => h) (Or.inl ⟨by rfl, ?_⟩) (by assumption) ?_
          rotate_left
          · intro w hSw; (try dsimp only at hSw); go_simp; try with_reducible rfl
          (try simp only [Act.put, List.setIfInBounds_toArray, List.set_cons_zero, List.set_cons_succ])
          refine wpAnyH_take (i := 10) (oi := { dst := some 41, op := Op.build 37 #[(0, Operand.const (Value.int IntKind.i64 1)), (1, Operand.tmp 32), (3, Operand.tmp 33), (4, Operand.tmp 36), (5, Operand.tmp 40)], type := 37, pos := "kit.go:19", after := #[{ on := 1, ground := Ground.data }, { on := 2, ground := Ground.data }, { on := 5, ground := Ground.data }, { on := 9, ground := Ground.data }], guard := none }) (v := ?_) rfl (by kernel_rfl) (by kernel_rfl) (by kernel_rfl) (fun _ _ _ h => h) (Or.inl ⟨by rfl, ?_⟩) (by assumption) ?_
          rotate_left
          · intro w hSw; (try dsimp only at hSw); go_simp; try with_reducible rfl
          (try simp only [Act.put, List.setIfInBounds_toArray, List.set_cons_zero, List.set_cons_succ])
          refine wpAnyH_ready (rs := [11]) (by kernel_rfl) (by simp) ?_
          refine AllReadyH.cons rfl (fun K hK => ?_) AllReadyH.nil
          go_simp
          refine hK.out _ _ (SK.out _ (bd3.trans (((Below.refl _ Wd).alloc (Nat.le_refl _) (.cells (evC ⟨1, (t : Int), 0, (a : Int), xobj, ov, 0, 0⟩) 37)).mono (by omega)))) (fun hHeld => ?_)
          clear hK K
          (try dsimp only [Act.put]); (try simp only [Act.put, List.setIfInBounds_toArray, List.set_cons_zero, List.set_cons_succ])
          refine wpAnyH_ready (rs := [12]) (by kernel_rfl) (by simp) ?_
          refine AllReadyH.cons rfl (fun K hK => ?_) AllReadyH.nil
          refine wp_append_own2 (Wd.alloc (.cells (evC ⟨1, (t : Int), 0, (a : Int), xobj, ov, 0, 0⟩) 37)) _ _ 31 rfl W3.heap.size 37 iE _ 8 64 Try.underlying31 hzE hsE hbE hcE rfl (by decide) u6 n _ rfl (HRd.out.alloc _) ⟨Wd.heap.size, 0, none⟩ 1 1 (evL ⟨1, (t : Int), 0, (a : Int), xobj, ov, 0, 0⟩) rfl rfl (fun j u hj => evnew Wd ⟨1, (t : Int), 0, (a : Int), xobj, ov, 0, 0⟩ j u hj) (evone ⟨1, (t : Int), 0, (a : Int), xobj, ov, 0, 0⟩) (by unfold maxLen; omega) (by omega) (by rw [World.size_alloc]; omega) (by omega) ?_
          intro g2 cap2 w2 hr2 hg2 ho2
          have bg := bd3.trans (grown_below hg2 HRd.out hsd)
          rw [evs_snoc] at hr2
          refine hK.out _ _ (SK.out _ bg) (fun hHeld => ?_)
          clear hK K
          (try dsimp only [Act.put]); (try simp only [Act.put, List.setIfInBounds_toArray, List.set_cons_zero, List.set_cons_succ])
          refine wpAnyH_ready (rs := [13]) (by kernel_rfl) (by simp) ?_
          refine AllReadyH.cons rfl (fun K hK => ?_) AllReadyH.nil
          go_simp
          refine hK.out _ _ (by assumption) (fun hHeld => ?_)
          clear hK K
          (try dsimp only [Act.put]); (try simp only [Act.put, List.setIfInBounds_toArray, List.set_cons_zero, List.set_cons_succ])
          refine wpAnyH_done (by kernel_rfl) ?_ _
          go_wp2_with fail
          go_roundw
          case rel => exact ⟨i + 1, n + 1, _, by omega, by have := HNn.out; omega, by go_num, hr2, bg⟩
          case measure => simp [intOf]; omega
        · have e9 : i = 9 := by omega
          subst e9
          go_wp2_with fail
          go_roundw
          case rel => exact ⟨a + 1, n, l, by omega, by have := HNn.out; omega, by go_num, HR.out, HBR.out⟩
          case measure => simp [intOf]; omega
    · have e11 : a = 11 := by omega
      subst e11
      have q := HQ.out.below HBR.out HQ.out.lt
      have d0 := q.cell 0 _ rfl
      have d6 := q.cell 6 _ rfl
      have d7 := q.cell 7 _ rfl
      clear q HT
      go_upto_region 12 with (at_builtin; refine wpList_append_own2 _ rfl _ _ 31 rfl W3.heap.size 37 iE _ 8 64 Try.underlying31 hzE hsE hbE hcE rfl (by decide) _ n _ rfl (HR.out.alloc _) ⟨wr.heap.size, 0, none⟩ 1 1 (evL ⟨2, (t : Int), wrap64 (xcalls - 1), 0, 0, 0, xcode, xval⟩) rfl rfl (fun j u hj => evnew wr ⟨2, (t : Int), wrap64 (xcalls - 1), 0, 0, 0, xcode, xval⟩ j u hj) (evone ⟨2, (t : Int), wrap64 (xcalls - 1), 0, 0, 0, xcode, xval⟩) (by unfold maxLen; omega) (by omega) (by rw [World.size_alloc]; omega) (by omega) ?_; intro g3 cap3 w3 hr3 hg3 ho3)
      rw [evs_snoc] at hr3
      have HR3 := Lib.hid hr3
      have HB3 := Lib.hid (HBR.out.trans (grown_below hg3 HR.out hsr))
      have hs3 := HB3.out.size
      clear hr3 hg3 ho3 d0 d6 d7
      have d0 := (HQ.out.below HB3.out HQ.out.lt).cell 0 _ rfl
      go_wp2_with (at_builtin; refine wpList_append_own2 _ rfl _ _ 31 rfl W3.heap.size 37 iE _ 8 64 Try.underlying31 hzE hsE hbE hcE rfl (by decide) _ (n + 1) _ rfl (HR3.out.alloc _) ⟨w3.heap.size, 0, none⟩ 1 1 (evL ⟨2, (t : Int), wrap64 (xcalls - 1), 0, 0, 0, 2, 0⟩) rfl rfl (fun j u hj => evnew w3 ⟨2, (t : Int), wrap64 (xcalls - 1), 0, 0, 0, 2, 0⟩ j u hj) (evone ⟨2, (t : Int), wrap64 (xcalls - 1), 0, 0, 0, 2, 0⟩) (by unfold maxLen; omega) (by omega) (by rw [World.size_alloc]; omega) (by omega) ?_; intro g4 cap4 w4 hr4 hg4 ho4)
      go_ret
      rw [evs_snoc] at hr4
      have hb4 := HB3.out.trans (grown_below hg4 HR3.out hs3)
      exact ⟨_, n + 1 + 1, rfl, evrow_own hr4, by omega, by omega, HB.out.trans (hb4.mono HB.out.size)⟩
end Go.Proofs.Ytcgljmeppmdihaa
