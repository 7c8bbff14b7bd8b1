/- Package api: Told, of no error and of a fault (errors.As at the program's own types). -/
import Derived.Test.YtkmadabpfialbaaGreatDoorProg
import Derived.Test.YtkmadabpfialbaaGreatDoorKeep
import Derived.LaidEql
import Derived.Stop.Asserts
import Derived.RowKitTokens
import Derived.Laws.LoneSync
import Derived.Laws.EntriesVeiled
import Derived.Lib.Hide
import Derived.Deep.CutBlock
namespace Go.Proofs.YtkmadabpfialbaaGreatDoor
open Go.ChangeShapes Go.WideShapes Go.ChangeAt Go.RowKit Go.Extern.Stop Go.Stop Go.Extern
set_option linter.unusedVariables false
set_option maxRecDepth 100000
set_option linter.unusedSimpArgs false
abbrev pFV (p : Nat) : Value := .pointer (some ⟨p, 0, none⟩)
abbrev typV (t : Nat) : Value := .pointer (some ⟨9, t, none⟩)
theorem as_none (T : Nat) (q : Value) (w : World) : Calls Tryz.prog 33 #[.nilIface, .iface T q] w fun e w' => e = .returned (.bool false) ∧ w = w' := by
  go_enter Tryz.func33, Tryz.ntmps33
  go_wp2
  go_ret
  exact ⟨rfl, rfl⟩
theorem told_nil (w : World) : Calls Tryz.prog 17 #[.nilIface] w fun e w' => e = .returned (.agg #[.int .i64 0, .int .i64 0, .int .i64 0]) ∧ Below w.heap.size w w' := by
  go_enter Tryz.func17, Tryz.ntmps17
  go_wp2_with (go_at_call 33; refine (as_none _ _ _).mono ?_; rintro e w1 ⟨rfl, rfl⟩)
  refine bodyPost_ret (v := .agg #[.int .i64 0, .int .i64 0, .int .i64 0]) (results_cell_row rfl _ _ w.heap.size 41 _ (0, 0) _ rfl (((Blk.new w 41 _).alloc _).alloc _) Tryz.underlying41 rfl (by kernel_rfl)) rfl ⟨rfl, by go_grown⟩
/- what reflectlite answers at these types -/
theorem valueOf_pp (t : Addr) (w : World) : (ReflectliteValue.unpack (.iface 69 (.pointer (some t)))).run Tryz.prog w
    = .ok (.agg #[typV 69, .pointer (some ⟨w.heap.size, 0, none⟩), .int .u64 150]) (w.alloc (.cells #[.pointer (some t)] 69)) := by kernel_rfl
theorem type_pp (a : Addr) (w : World) : (ReflectliteValue.methodAny (ReflectliteValue.valueError "reflectlite.Value.Type" 0) (fun t _ _ _ => ReflectliteType.toType t) #[.agg #[typV 69, .pointer (some a), .int .u64 150]]).run Tryz.prog w
    = .ok (.iface 112 (.agg #[typV 69])) w := by kernel_rfl
theorem meth_kind (h : Value) (w : World) : (Go.method 300 112 (.agg #[h]) "Kind").run Tryz.prog w = .ok (113, h) w := by kernel_rfl
theorem kind_pp (w : World) : ((ReflectliteType.abiMethod fun t => (fun a : Nat => Value.int IntKind.u8 (a : Int)) <$> Rtype.kind t) #[typV 69]).run Tryz.prog w = .ok (.int .u8 22) w := by kernel_rfl
theorem kind_p (w : World) : ((ReflectliteType.abiMethod fun t => (fun a : Nat => Value.int IntKind.u8 (a : Int)) <$> Rtype.kind t) #[typV 66]).run Tryz.prog w = .ok (.int .u8 22) w := by kernel_rfl
theorem meth_shape (z : Sem Value) (f : TypeId → Addr → Nat → Nat → Sem Value) (v : Value) : ∃ k, ReflectliteValue.method z f #[v] = (ReflectliteValue.parts v >>= k) ∧ ∀ t a n, k (some (t, a, n)) = f t a n (n % 32) := ⟨_, rfl, fun _ _ _ => rfl⟩
theorem parts_pp (a : Addr) (w : World) : (ReflectliteValue.parts (.agg #[typV 69, .pointer (some a), .int .u64 150])).run Tryz.prog w = .ok (some (69, a, 150)) w := by kernel_rfl
theorem isNil_pp (a p : Addr) (W : World) (ha : W.cell? a = some (.pointer (some p))) :
    (ReflectliteValue.method (ReflectliteValue.valueError "reflectlite.Value.IsNil" 0) ReflectliteValue.isNil #[.agg #[typV 69, .pointer (some a), .int .u64 150]]).run Tryz.prog W = .ok (.bool false) W := by
  obtain ⟨k, hk, hk2⟩ := meth_shape (ReflectliteValue.valueError "reflectlite.Value.IsNil" 0) ReflectliteValue.isNil (.agg #[typV 69, .pointer (some a), .int .u64 150])
  rw [hk]
  simp only [Sem.run_bind, parts_pp, Result.andThen, hk2]
  simp [ReflectliteValue.isNil, loadVar, isAgg, underlying, Tryz.underlying69, ha, Result.andThen]
theorem meth_elem (h : Value) (w : World) : (Go.method 300 112 (.agg #[h]) "Elem").run Tryz.prog w = .ok (126, .agg #[h]) w := by kernel_rfl
theorem meth_impl (h : Value) (w : World) : (Go.method 300 112 (.agg #[h]) "Implements").run Tryz.prog w = .ok (127, .agg #[h]) w := by kernel_rfl
theorem meth_assig (h : Value) (w : World) : (Go.method 300 112 (.agg #[h]) "AssignableTo").run Tryz.prog w = .ok (124, .agg #[h]) w := by kernel_rfl
theorem elem_pp (w : World) : (ReflectliteType.method ReflectliteType.elem #[.agg #[typV 69]]).run Tryz.prog w = .ok (.iface 112 (.agg #[typV 66])) w := by kernel_rfl
theorem impl_p (w : World) : (ReflectliteType.relation "Implements" ReflectliteType.implements_ #[.agg #[typV 66], .iface 112 (.agg #[typV 34])]).run Tryz.prog w = .ok (.bool true) w := by kernel_rfl
theorem typeOf_p (v : Value) (w : World) : (ReflectliteType.typeOf #[.iface 66 v]).run Tryz.prog w = .ok (.iface 112 (.agg #[typV 66])) w := by kernel_rfl
theorem assig_p (w : World) : (ReflectliteType.relation "AssignableTo" ReflectliteType.assignableTo #[.agg #[typV 66], .iface 112 (.agg #[typV 66])]).run Tryz.prog w = .ok (.bool true) w := by kernel_rfl
theorem valueOf_p (e : Addr) (w : World) : (ReflectliteValue.unpack (.iface 66 (.pointer (some e)))).run Tryz.prog w
    = .ok (.agg #[typV 66, .pointer (some ⟨w.heap.size, 0, none⟩), .int .u64 150]) (w.alloc (.cells #[.pointer (some e)] 66)) := by kernel_rfl
theorem elemOf_pp (w : World) : (Rtype.elem? 69).run Tryz.prog w = .ok (some 66) w := by kernel_rfl
theorem mk_p (p : Addr) (w : World) : (ReflectliteValue.mk 66 p ReflectliteValue.flagAddr).run Tryz.prog w = .ok (.agg #[typV 66, .pointer (some p), .int .u64 406]) w := by kernel_rfl
theorem vElem_pp (a p : Addr) (W : World) (ha : W.cell? a = some (.pointer (some p))) :
    (ReflectliteValue.method (ReflectliteValue.valueError "reflectlite.Value.Elem" 0) ReflectliteValue.elem #[.agg #[typV 69, .pointer (some a), .int .u64 150]]).run Tryz.prog W
      = .ok (.agg #[typV 66, .pointer (some p), .int .u64 406]) W := by
  obtain ⟨k, hk, hk2⟩ := meth_shape (ReflectliteValue.valueError "reflectlite.Value.Elem" 0) ReflectliteValue.elem (.agg #[typV 69, .pointer (some a), .int .u64 150])
  rw [hk]
  simp only [Sem.run_bind, parts_pp, Result.andThen, hk2]
  simp [ReflectliteValue.elem, loadVar, isAgg, underlying, Tryz.underlying69, ha, Result.andThen, elemOf_pp, mk_p]
theorem set_shape (v x : Value) : ∃ k : Option (TypeId × Addr × Nat) → Option (TypeId × Addr × Nat) → Sem Value, ReflectliteValue.set #[v, x] = (ReflectliteValue.parts v >>= fun r => ReflectliteValue.parts x >>= fun s => k r s) ∧
    ∃ E : Addr → Addr → Value → Sem Value, ∀ a b, k (some (66, a, 406)) (some (66, b, 150)) = (loadVar 66 b >>= fun u => Rtype.directlyAssignable 66 66 >>= fun d => if d then (storeVar 66 a u >>= fun _ => pure (.tuple #[])) else E a b u) := ⟨_, rfl, _, fun _ _ => rfl⟩
theorem parts_pa (a : Addr) (w : World) : (ReflectliteValue.parts (.agg #[typV 66, .pointer (some a), .int .u64 406])).run Tryz.prog w = .ok (some (66, a, 406)) w := by kernel_rfl
theorem parts_p (a : Addr) (w : World) : (ReflectliteValue.parts (.agg #[typV 66, .pointer (some a), .int .u64 150])).run Tryz.prog w = .ok (some (66, a, 150)) w := by kernel_rfl
theorem direct_p (w : World) : (Rtype.directlyAssignable 66 66).run Tryz.prog w = .ok true w := by kernel_rfl
theorem size_p (w : World) : (sizeOf 66).run Tryz.prog w = .ok 1 w := by kernel_rfl
theorem set_p (ta b e : Addr) (old : Value) (W : World) (hb : W.cell? b = some (.pointer (some e))) (ht : W.cell? ta = some old) (hf : W.frozen? ta = false) :
    (ReflectliteValue.set #[.agg #[typV 66, .pointer (some ta), .int .u64 406], .agg #[typV 66, .pointer (some b), .int .u64 150]]).run Tryz.prog W = .ok (.tuple #[]) (W.setCell ta (.pointer (some e))) := by
  obtain ⟨k, hk, E, hE⟩ := set_shape (.agg #[typV 66, .pointer (some ta), .int .u64 406]) (.agg #[typV 66, .pointer (some b), .int .u64 150])
  rw [hk]
  simp only [Sem.run_bind, parts_pa, parts_p, Result.andThen, hE]
  simp [loadVar, isAgg, underlying, Tryz.underlying66, hb, Result.andThen, direct_p, storeVar, Value.cells, storeCells, Addr.add]
  rw [run_store Tryz.prog W ta _ _ (by rfl)]
  simp [ht, hf]
set_option maxHeartbeats 8000000 in
theorem as_fault (p q : Nat) (u : Value) (w : World) (hg : w.cell? ⟨0, 0, none⟩ = some (.iface 112 (.agg #[typV 34]))) (hq : Blk w q 66 #[u]) :
    Calls Tryz.prog 33 #[.iface 66 (pFV p), .iface 69 (pFV q)] w fun e w' => e = .returned (.bool true) ∧ Blk w' q 66 #[pFV p] ∧ Keep (fun b => b = q) w w' := by
  have e1 := @run_callFunc_extern Tryz.prog 45 _ (fun args => ReflectliteValue.unpack (args.getD 0 (.tuple #[]))) Tryz.func45 (by kernel_rfl) (by kernel_rfl) (by kernel_rfl) (by kernel_rfl)
  have e2 := @run_callFunc_extern Tryz.prog 46 _ (ReflectliteValue.methodAny (ReflectliteValue.valueError "reflectlite.Value.Type" 0) (fun t _ _ _ => ReflectliteType.toType t)) Tryz.func46 (by kernel_rfl) (by kernel_rfl) (by kernel_rfl) (by kernel_rfl)
  have e3 := @run_callFunc_extern Tryz.prog 47 _ (ReflectliteValue.method (ReflectliteValue.valueError "reflectlite.Value.IsNil" 0) ReflectliteValue.isNil) Tryz.func47 (by kernel_rfl) (by kernel_rfl) (by kernel_rfl) (by kernel_rfl)
  have e4 := @run_callFunc_extern Tryz.prog 113 _ (ReflectliteType.abiMethod fun t => do pure (.int .u8 (← Rtype.kind t))) Tryz.func113 (by kernel_rfl) (by kernel_rfl) (by kernel_rfl) (by kernel_rfl)
  have e5 := @run_callFunc_extern Tryz.prog 126 _ (ReflectliteType.method ReflectliteType.elem) Tryz.func126 (by kernel_rfl) (by kernel_rfl) (by kernel_rfl) (by kernel_rfl)
  have e6 := @run_callFunc_extern Tryz.prog 127 _ (ReflectliteType.relation "Implements" ReflectliteType.implements_) Tryz.func127 (by kernel_rfl) (by kernel_rfl) (by kernel_rfl) (by kernel_rfl)
  have e7 := @run_callFunc_extern Tryz.prog 60 _ ReflectliteType.typeOf Tryz.func60 (by kernel_rfl) (by kernel_rfl) (by kernel_rfl) (by kernel_rfl)
  have e8 := @run_callFunc_extern Tryz.prog 124 _ (ReflectliteType.relation "AssignableTo" ReflectliteType.assignableTo) Tryz.func124 (by kernel_rfl) (by kernel_rfl) (by kernel_rfl) (by kernel_rfl)
  have e9 := @run_callFunc_extern Tryz.prog 61 _ (ReflectliteValue.method (ReflectliteValue.valueError "reflectlite.Value.Elem" 0) ReflectliteValue.elem) Tryz.func61 (by kernel_rfl) (by kernel_rfl) (by kernel_rfl) (by kernel_rfl)
  have e10 := @run_callFunc_extern Tryz.prog 62 _ ReflectliteValue.set Tryz.func62 (by kernel_rfl) (by kernel_rfl) (by kernel_rfl) (by kernel_rfl)
  have m1 := valueOf_pp
  have m2 := type_pp
  have m3 := meth_kind
  have m4 := kind_pp
  have m5 := kind_p
  have m6 := meth_elem
  have m7 := meth_impl
  have m8 := meth_assig
  have m9 := elem_pp
  have m10 := impl_p
  have m11 := typeOf_p
  have m12 := assig_p
  have m13 := valueOf_p
  have hql := hq.lt
  have h0l : 0 < w.heap.size := by
    rcases Nat.eq_zero_or_pos w.heap.size with h0 | h
    · simp [World.cell?, h0] at hg
    · exact h
  obtain ⟨w1, hw1⟩ : ∃ w1, w.alloc (.cells #[pFV q] 69) = w1 := ⟨_, rfl⟩
  obtain ⟨w2, hw2⟩ : ∃ w2, w1.alloc (.cells #[typV 69, pFV w.heap.size, .int .u64 150] 93) = w2 := ⟨_, rfl⟩
  obtain ⟨w3, hw3⟩ : ∃ w3, w2.alloc (.cells #[typV 69, pFV w.heap.size, .int .u64 150] 93) = w3 := ⟨_, rfl⟩
  obtain ⟨w4, hw4⟩ : ∃ w4, w3.alloc (.cells #[pFV p] 66) = w4 := ⟨_, rfl⟩
  have z1 : w1.heap.size = w.heap.size + 1 := by rw [← hw1]; simp
  have z2 : w2.heap.size = w.heap.size + 1 + 1 := by rw [← hw2]; simp [z1]
  have z3 : w3.heap.size = w.heap.size + 1 + 1 + 1 := by rw [← hw3]; simp [z2]
  have b1 : Blk w1 w.heap.size 69 #[pFV q] := by rw [← hw1]; exact Blk.new w _ _
  have b2 : Blk w2 w.heap.size 69 #[pFV q] := by rw [← hw2]; exact b1.alloc _
  have b3 : Blk w3 w.heap.size 69 #[pFV q] := by rw [← hw3]; exact b2.alloc _
  have b4 : Blk w4 w3.heap.size 66 #[pFV p] := by rw [← hw4]; exact Blk.new w3 _ _
  have k4 : Keep (fun _ => False) w w4 := by rw [← hw4, ← hw3, ← hw2, ← hw1]; exact ((((Keep.refl _ w).alloc _).alloc _).alloc _).alloc _
  have k2 : Keep (fun _ => False) w w2 := by rw [← hw2, ← hw1]; exact ((Keep.refl _ w).alloc _).alloc _
  have q4 : Blk w4 q 66 #[u] := hq.keep k4 (fun h => h)
  have g2 : w2.cell? ⟨0, 0, none⟩ = some (.iface 112 (.agg #[typV 34])) := by
    unfold World.cell?
    rw [k2.block 0 h0l (fun h => h)]
    exact hg
  have n3 := isNil_pp ⟨w.heap.size, 0, none⟩ ⟨q, 0, none⟩ w2 (b2.cell 0 _ rfl)
  have n9 := vElem_pp ⟨w.heap.size, 0, none⟩ ⟨q, 0, none⟩ w3 (b3.cell 0 _ rfl)
  have n10 := set_p ⟨q, 0, none⟩ ⟨w3.heap.size, 0, none⟩ ⟨p, 0, none⟩ u w4 (b4.cell 0 _ rfl) (q4.cell 0 _ rfl) (q4.free 0)
  rw [z3] at n10
  clear hg
  subst hw4; subst hw3; subst hw2; subst hw1
  have BQ := Lib.hid (q4.set 0 (pFV p))
  have KQ := Lib.hid ((k4.mono (Q' := fun b => b = q) (fun _ _ h => h.elim)).set (p := ⟨q, 0, none⟩) (fun _ => rfl) (pFV p))
  clear q4 k4 k2 b1 b2 b3 b4 hq
  go_enter Tryz.func33, Tryz.ntmps33
  go_wp2
  refine wp_loop_rounds 1 ?_
  rw [rounds_succ]
  go_wp2
  go_ret
  exact ⟨rfl, BQ.out, KQ.out⟩
/-- Told, of a fault -/
theorem told_fault (p : Nat) (c m a : Int) (w : World) (hg : w.cell? ⟨0, 0, none⟩ = some (.iface 112 (.agg #[typV 34]))) (hp : Blk w p 41 #[.int .i64 c, .int .i64 m, .int .i64 a]) :
    Calls Tryz.prog 17 #[.iface 66 (pFV p)] w fun e w' => e = .returned (.agg #[.int .i64 c, .int .i64 m, .int .i64 a]) ∧ Below w.heap.size w w' := by
  have h0l : 0 < w.heap.size := by
    rcases Nat.eq_zero_or_pos w.heap.size with h0 | h
    · simp [World.cell?, h0] at hg
    · exact h
  have hpl := hp.lt
  go_enter Tryz.func17, Tryz.ntmps17
  go_upto_region 2 with fail
  generalize hW : (w.alloc _).alloc _ = W
  have bW : Below w.heap.size w W := by rw [← hW]; go_grown
  have sW : W.heap.size = w.heap.size + 2 := by rw [← hW]; simp
  have r0 : Blk W w.heap.size 41 #[.int .i64 0, .int .i64 0, .int .i64 0] := by rw [← hW]; exact (Blk.new w _ _).alloc _
  have f0 : Blk W (w.heap.size + 1) 66 #[.pointer none] := by rw [← hW]; exact blk_two w _ _ _
  clear hW
  have kW : Keep (fun _ => False) w W := Keep.ofBelow bW
  have gW : W.cell? ⟨0, 0, none⟩ = some (.iface 112 (.agg #[typV 34])) := by
    unfold World.cell?
    rw [kW.block 0 h0l (fun h => h)]
    exact hg
  have pW := hp.keep kW (fun h => h)
  have HA := Lib.hid (as_fault p (w.heap.size + 1) (.pointer none) W gW f0)
  clear hg gW f0 hp
  go_upto_region 3 with (go_at_call 33; refine HA.out.mono ?_; rintro e w5 ⟨rfl, hF, k5⟩; have c0 : w5.cell? ⟨w.heap.size + 1, 0, none⟩ = some (pFV p) := hF.cell 0 _ rfl)
  have r5 := r0.keep k5 (by omega)
  have p5 := pW.keep k5 (by omega)
  have d0 : w5.cell? ⟨p, 0, none⟩ = some (.int .i64 c) := p5.cell 0 _ rfl
  have d1 : w5.cell? ⟨p, 1, none⟩ = some (.int .i64 m) := p5.cell 1 _ rfl
  have d2 : w5.cell? ⟨p, 2, none⟩ = some (.int .i64 a) := p5.cell 2 _ rfl
  have r50 : w5.cell? ⟨w.heap.size, 0, none⟩ = some (.int .i64 0) := r5.cell 0 _ rfl
  have r51 : w5.cell? ⟨w.heap.size, 1, none⟩ = some (.int .i64 0) := r5.cell 1 _ rfl
  have r52 : w5.cell? ⟨w.heap.size, 2, none⟩ = some (.int .i64 0) := r5.cell 2 _ rfl
  have y0 := r5.free 0
  have y1 := r5.free 1
  have y2 := r5.free 2
  have B5 : Below w.heap.size w w5 := bW.trans (k5.below bW.size (fun i _ e => by omega))
  go_wp2
  have R5 := ((r5.set 0 (.int .i64 c)).set 1 (.int .i64 m)).set 2 (.int .i64 a)
  refine bodyPost_ret (v := .agg #[.int .i64 c, .int .i64 m, .int .i64 a]) (results_cell_row rfl _ _ w.heap.size 41 _ (0, 0) _ rfl R5 Tryz.underlying41 rfl (by kernel_rfl)) rfl ⟨rfl, ?_⟩
  exact ((B5.setCell (p := ⟨w.heap.size, 0, none⟩) (Nat.le_refl _) _).setCell (p := ⟨w.heap.size, 1, none⟩) (Nat.le_refl _) _).setCell (p := ⟨w.heap.size, 2, none⟩) (Nat.le_refl _) _
end Go.Proofs.YtkmadabpfialbaaGreatDoor
