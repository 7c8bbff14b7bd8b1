/- Package pool: Take and Back. -/
import Derived.Test.YtldofbkjjmnooaaGreatMgPShI
import Derived.Test.YtldofbkjjmnooaaGreatMgPShA
import Derived.Test.YtldofbkjjmnooaaGreatMgPShC
import Derived.RangeFuncNested
import Derived.RangeFuncBound
import Derived.RangeFuncCalls
import Derived.RangeFuncLeaves
import Derived.Shelf.Abstract
import Derived.Shelf.RegionOpen
import Derived.OwnWalkIn
import Derived.TacticsInMore
import Derived.LoopNIn
import Derived.LoopIn
import Derived.Maps.AppendAt
namespace Go.Proofs.YtldofbkjjmnooaaGreat
open Go.ChangeShapes Go.WideShapes Go.ChangeAt Go.RowKit
set_option linter.unusedVariables false
set_option maxRecDepth 100000
set_option linter.unusedSimpArgs false
/-- Back's work behind the load of the generation -/
def backK (m : Mp) (n : Int) (v : Int) : Tre Itm := if 4095 ≤ IntKind.u64.wrap v then retT 0 else seqT [mvT 1 (linkN m n), putT 1 (n + 1), retT 1]
def backB (m : Mp) (n : Int) : Tre Itm := opT (loadI (genN m n)) (backK m n)
theorem call_back11 : ∀ (W : World) (args : Array Value), (callFunc 198 args).run Tryz.prog W = .ok (.enter 198 args) W := by
  intro W args
  go_simp
theorem call_back1 : ∀ (W : World) (args : Array Value), (callFunc 197 args).run Tryz.prog W = .ok (.enter 197 args) W := by
  intro W args
  go_simp
set_option maxHeartbeats 4000000 in
theorem back11_any (C P : Nat) (m : Mp) (Q : Nat → Prop) (n v : Int) (bs bn : Nat) (w : World) (hm : m.ok) (hn : 0 ≤ n ∧ n < m.n) (hs : Blk w bs 170 (stockCs C m)) (hb : Blk w bn 3 #[.int .i64 n]) (hQ : ∀ k, w.heap.size ≤ k → Q k) :
    Calls Tryz.prog 198 #[.int .i64 v, pV bs, pV bn] w fun e w' => ∃ t, e = .returned (pV t) ∧ MadeQ (cellOps C P) w Q (backK m n v) t w' := by
  have hu := u64_range v
  have hmn := hm.n
  have HX := Lib.hid fun V => link_any m n V hm ⟨hn.1, by omega⟩
  have HH := Lib.hid fun V => head_any m V
  have HK := Lib.hid fun V => pmark_any n V (by omega)
  have SK := Lib.hid (show ∀ V, Below w.heap.size w V → (V.cell? ⟨bs, 0, none⟩ = some (cellsV C) ∧ V.cell? ⟨bs, 1, none⟩ = some (.int .i64 (m.t : Int)) ∧ V.cell? ⟨bs, 2, none⟩ = some (.int .i64 (m.o : Int)) ∧ V.cell? ⟨bs, 3, none⟩ = some (.int .i64 (m.n : Int))) ∧ V.cell? ⟨bn, 0, none⟩ = some (.int .i64 n) from fun V hk => ⟨stock4 (hs.below hk hs.lt), (hb.below hk hb.lt).cell 0 _ rfl⟩)
  have HQ := Lib.hid hQ
  unfold backK
  clear hs hb hQ hm hmn hn hu
  by_cases hv : 4095 ≤ IntKind.u64.wrap v
  · go_enter Tryz.func198, Tryz.ntmps198
    go_wp2_with (go_at_call 102; refine (poReady C P Q 0 _).mono ?_; rintro e w2 ⟨t', rfl, h1⟩)
    go_ret
    exact ⟨t', rfl, h1⟩
  · have HMv := Lib.hid fun V (hV : Below w.heap.size w V) => move_any C P m Q 1 (linkN m n) V (fun k hk => HQ.out k (by have := hV.size; omega)) (aI := 1) rfl rfl
    have HS := Lib.hid fun V (hV : Below w.heap.size w V) => (show Calls Tryz.prog 178 #[cellsV C, .int .i64 1, .int .u64 (n + 1)] V fun e w' => ∃ t, e = .returned (pV t) ∧ MadeQ (cellOps C P) V Q (putT 1 (n + 1)) t w' from poStore C P Q 1 (n + 1) V (fun k hk => HQ.out k (by have := hV.size; omega)))
    have HR := Lib.hid fun V => poReady C P Q 1 V
    have HSQ := Lib.hid fun V t1 t2 t3 (hV : Below w.heap.size w V) h1 h2 h3 q1 q2 q3 => seqT_three (cellOps C P) Q (mvT 1 (linkN m n)) (putT 1 (n + 1)) (retT 1) t1 t2 t3 V h1 h2 h3 q1 q2 q3 (fun k hk => HQ.out k (by have := hV.size; omega))
    have bd : Below w.heap.size w w.drew := bdrewP w
    go_enter Tryz.func198, Tryz.ntmps198
    go_upto_region 3 with fail
    go_region_held3 (fun V => (V.cell? ⟨bs, 0, none⟩ = some (cellsV C) ∧ V.cell? ⟨bs, 1, none⟩ = some (.int .i64 (m.t : Int)) ∧ V.cell? ⟨bs, 2, none⟩ = some (.int .i64 (m.o : Int)) ∧ V.cell? ⟨bs, 3, none⟩ = some (.int .i64 (m.n : Int))) ∧ V.cell? ⟨bn, 0, none⟩ = some (.int .i64 n)) (first | exact SK.out _ b9 | exact SK.out _ bA | exact SK.out _ b7 | exact SK.out _ b6 | exact SK.out _ b5 | exact SK.out _ b4 | exact SK.out _ b3 | exact SK.out _ b2 | exact SK.out _ bd) (first
      | (go_at_call 36; (with_reducible refine (HH.out _).mono ?_); rintro e w2 ⟨rfl, hb2⟩; have b2 : Below w.heap.size w w2 := bd.trans (hb2.mono bd.size))
      | (go_at_call 47; (with_reducible refine (HX.out _).mono ?_); rintro e w3 ⟨rfl, hb3⟩; have b3 : Below w.heap.size w w3 := b2.trans (hb3.mono b2.size); have HMv2 := Lib.hid (HMv.out w3 b3))
      | (go_at_call 196; (with_reducible refine HMv2.out.mono ?_); rintro e w4 ⟨t1, rfl, hM1⟩; have b4 : Below w.heap.size w w4 := b3.trans (hM1.2.2.mono b3.size); have HH2 := Lib.hid (HH.out w4))
      | (go_at_call 36; (with_reducible refine HH2.out.mono ?_); rintro e w5 ⟨rfl, hb5⟩; have b5 : Below w.heap.size w w5 := b4.trans (hb5.mono b4.size); have HS2 := Lib.hid (HS.out w5 b5))
      | (go_at_call 114; (with_reducible refine (HK.out _).mono ?_); rintro e w5b ⟨rfl, rfl⟩)
      | (go_at_call 178; (with_reducible refine HS2.out.mono ?_); rintro e w6 ⟨t2, rfl, hM2⟩; have b6 : Below w.heap.size w w6 := b5.trans (hM2.2.2.mono b5.size); have HR2 := Lib.hid (HR.out w6))
      | (go_at_call 102; (with_reducible refine HR2.out.mono ?_); rintro e w7 ⟨t3, rfl, hM3⟩; have b7 : Below w.heap.size w w7 := b6.trans (hM3.2.2.mono b6.size); have b47 : Below w4.heap.size w4 w7 := (hb5.trans (hM2.2.2.mono hb5.size)).trans (hM3.2.2.mono (Nat.le_trans hb5.size hM2.2.2.size)); have HSQ2 := Lib.hid (HSQ.out w7 t1 t2 t3 b7 (hM1.task.at b47) (hM2.task.at hM3.2.2) hM3.task (HQ.out _ (by have := b3.size; have := hM1.1; omega)) (HQ.out _ (by have := b5.size; have := hM2.1; omega)) (HQ.out _ (by have := b6.size; have := hM3.1; omega))); have bA : Below w.heap.size w (w7.alloc (.cells #[pV t1, pV t2, pV t3] 40)) := b7.trans (((Below.refl _ w7).alloc (Nat.le_refl _) _).mono b7.size))
      | (go_at_call 138; (with_reducible refine HSQ2.out.mono ?_); rintro e w9 ⟨t4, rfl, hM4⟩; have b9 : Below w.heap.size w w9 := b7.trans (hM4.2.2.mono b7.size)))
    all_goals go_wp2
    all_goals go_ret
    all_goals exact ⟨t4, rfl, hM4.of b7⟩
set_option maxHeartbeats 2000000 in
theorem take1_any (C P : Nat) (m : Mp) (Q : Nat → Prop) (bs : Nat) (w : World) (hm : m.ok) (hs : Blk w bs 170 (stockCs C m)) (hqs : Q bs) (hQ : ∀ k, w.heap.size ≤ k → Q k) :
    Calls Tryz.prog 192 #[pV bs] w fun e w' => ∃ t, e = .returned (pV t) ∧ MadeQ (cellOps C P) w Q (takeB m) t w' := by
  have hmf : ∀ (fn : Fn) (first cap : Array Value) (w : World), (Instr.makeFunc fn first cap).run Tryz.prog w = .ok (.func fn first cap) w := fun _ _ _ _ => rfl
  have HH := Lib.hid fun V => head_any m V
  have SK := Lib.hid (show ∀ V, Below w.heap.size w V → (V.cell? ⟨bs, 0, none⟩ = some (cellsV C) ∧ V.cell? ⟨bs, 1, none⟩ = some (.int .i64 (m.t : Int)) ∧ V.cell? ⟨bs, 2, none⟩ = some (.int .i64 (m.o : Int)) ∧ V.cell? ⟨bs, 3, none⟩ = some (.int .i64 (m.n : Int))) from fun V hk => stock4 (hs.below hk hs.lt))
  have HQ := Lib.hid hQ
  have HL := Lib.hid fun V (hV : Below w.heap.size w V) => (show Calls Tryz.prog 193 #[cellsV C, .int .i64 1] V fun e w' => ∃ t, e = .returned (pV t) ∧ MadeQ (cellOps C P) V Q (opT (loadI 1) retT) t w' from poLoad C P Q 1 V (fun k hk => HQ.out k (by have := hV.size; omega)))
  have HT := Lib.hid fun w2 t1 (hV : Below w.heap.size w w2) hM => poThen C P Q t1 194 #[pV bs] (opT (loadI 1) retT) (takeK m) w2 hM (fun k hk => HQ.out k (by have := hV.size; omega)) call_take11 (fun v w4 hk => take11_any C P m _ v bs w4 hm ((hs.below hV hs.lt).keep hk (fun h => h ⟨hqs, Nat.lt_of_lt_of_le hs.lt hV.size⟩)) (fun k hk => hk))
  have bd := bdrewP w
  clear hs hQ hm hqs
  go_enter Tryz.func192, Tryz.ntmps192
  go_upto_region 1 with fail
  go_region_held3 (fun V => V.cell? ⟨bs, 0, none⟩ = some (cellsV C) ∧ V.cell? ⟨bs, 1, none⟩ = some (.int .i64 (m.t : Int)) ∧ V.cell? ⟨bs, 2, none⟩ = some (.int .i64 (m.o : Int)) ∧ V.cell? ⟨bs, 3, none⟩ = some (.int .i64 (m.n : Int))) (first | exact SK.out _ b5 | exact SK.out _ b4 | exact SK.out _ b3 | exact SK.out _ b2 | exact SK.out _ bd) (first
    | (go_at_call 36; (with_reducible refine (HH.out _).mono ?_); rintro e w2 ⟨rfl, hb2⟩; have b2 : Below w.heap.size w w2 := bd.trans hb2; have HL2 := Lib.hid (HL.out w2 b2))
    | (go_at_call 193; (with_reducible refine HL2.out.mono ?_); rintro e w3 ⟨t1, rfl, hM1⟩; have b3 : Below w.heap.size w w3 := b2.trans (hM1.2.2.mono b2.size); have HT2 := Lib.hid (HT.out w3 t1 b3 hM1.task))
    | (go_at_call 137; (with_reducible refine HT2.out.mono ?_); rintro e w4 ⟨t2, rfl, hM2⟩; have b4 : Below w.heap.size w w4 := b3.trans (hM2.2.2.mono b3.size)))
  all_goals go_wp2
  all_goals go_ret
  all_goals rw [bind_load] at hM2
  all_goals exact ⟨t2, rfl, hM2.of b3⟩
set_option maxHeartbeats 2000000 in
theorem back1_any (C P : Nat) (m : Mp) (Q : Nat → Prop) (n : Int) (bs bn : Nat) (w : World) (hm : m.ok) (hn : 0 ≤ n ∧ n < m.n) (hs : Blk w bs 170 (stockCs C m)) (hb : Blk w bn 3 #[.int .i64 n]) (hqs : Q bs) (hqb : Q bn) (hQ : ∀ k, w.heap.size ≤ k → Q k) :
    Calls Tryz.prog 197 #[pV bs, pV bn] w fun e w' => ∃ t, e = .returned (pV t) ∧ MadeQ (cellOps C P) w Q (backB m n) t w' := by
  have hmf : ∀ (fn : Fn) (first cap : Array Value) (w : World), (Instr.makeFunc fn first cap).run Tryz.prog w = .ok (.func fn first cap) w := fun _ _ _ _ => rfl
  have hmn := hm.n
  have HG := Lib.hid fun V => gen_any m n V hm ⟨hn.1, by omega⟩
  have SK := Lib.hid (show ∀ V, Below w.heap.size w V → (V.cell? ⟨bs, 0, none⟩ = some (cellsV C) ∧ V.cell? ⟨bs, 1, none⟩ = some (.int .i64 (m.t : Int)) ∧ V.cell? ⟨bs, 2, none⟩ = some (.int .i64 (m.o : Int)) ∧ V.cell? ⟨bs, 3, none⟩ = some (.int .i64 (m.n : Int))) ∧ V.cell? ⟨bn, 0, none⟩ = some (.int .i64 n) from fun V hk => ⟨stock4 (hs.below hk hs.lt), (hb.below hk hb.lt).cell 0 _ rfl⟩)
  have HQ := Lib.hid hQ
  have HL := Lib.hid fun V (hV : Below w.heap.size w V) => poLoad C P Q (genN m n) V (fun k hk => HQ.out k (by have := hV.size; omega))
  have HT := Lib.hid fun w2 t1 (hV : Below w.heap.size w w2) hM => poThen C P Q t1 198 #[pV bs, pV bn] (opT (loadI (genN m n)) retT) (backK m n) w2 hM (fun k hk => HQ.out k (by have := hV.size; omega)) call_back11 (fun v w4 hk => back11_any C P m _ n v bs bn w4 hm hn ((hs.below hV hs.lt).keep hk (fun h => h ⟨hqs, Nat.lt_of_lt_of_le hs.lt hV.size⟩)) ((hb.below hV hb.lt).keep hk (fun h => h ⟨hqb, Nat.lt_of_lt_of_le hb.lt hV.size⟩)) (fun k hk => hk))
  have bd := bdrewP w
  clear hs hb hQ hm hqs hqb hmn hn
  go_enter Tryz.func197, Tryz.ntmps197
  go_upto_region 1 with fail
  go_region_held3 (fun V => (V.cell? ⟨bs, 0, none⟩ = some (cellsV C) ∧ V.cell? ⟨bs, 1, none⟩ = some (.int .i64 (m.t : Int)) ∧ V.cell? ⟨bs, 2, none⟩ = some (.int .i64 (m.o : Int)) ∧ V.cell? ⟨bs, 3, none⟩ = some (.int .i64 (m.n : Int))) ∧ V.cell? ⟨bn, 0, none⟩ = some (.int .i64 n)) (first | exact SK.out _ b5 | exact SK.out _ b4 | exact SK.out _ b3 | exact SK.out _ b2 | exact SK.out _ bd) (first
    | (go_at_call 112; (with_reducible refine (HG.out _).mono ?_); rintro e w2 ⟨rfl, hb2⟩; have b2 : Below w.heap.size w w2 := bd.trans hb2; have HL2 := Lib.hid (HL.out w2 b2))
    | (go_at_call 193; (with_reducible refine HL2.out.mono ?_); rintro e w3 ⟨t1, rfl, hM1⟩; have b3 : Below w.heap.size w w3 := b2.trans (hM1.2.2.mono b2.size); have HT2 := Lib.hid (HT.out w3 t1 b3 hM1.task))
    | (go_at_call 137; (with_reducible refine HT2.out.mono ?_); rintro e w4 ⟨t2, rfl, hM2⟩; have b4 : Below w.heap.size w w4 := b3.trans (hM2.2.2.mono b3.size)))
  all_goals go_wp2
  all_goals go_ret
  all_goals rw [bind_load] at hM2
  all_goals exact ⟨t2, rfl, hM2.of b3⟩
/-- under the latch -/
theorem under_any (C P : Nat) (m : Mp) (Q : Nat → Prop) (t : Int) (F : Nat) (caps : Array Value) (B : Tre Itm) (w : World) (hB : BodyIs (cellOps C P) w Q (cloV F caps) B) (hQ : ∀ k, w.heap.size ≤ k → Q k) :
    Calls Tryz.prog 191 #[stockV C m, .int .i64 t, cloV F caps] w fun e w' => ∃ k, e = .returned (pV k) ∧ MadeT (cellOps C P) w Q (guardT 0 t B) k w' := by
  have HL := Lib.hid fun V => latch_any m V
  have HQ := Lib.hid hQ
  have HG := Lib.hid fun V (hV : Below w.heap.size w V) => guard_any C P Q 0 t (cloV F caps) B V (.inr ⟨_, _, rfl⟩) (hB.later (Keep.ofBelow hV) (fun _ _ h => h)) (fun k hk => HQ.out k (by have := hV.size; omega))
  clear hB hQ
  go_enter Tryz.func191, Tryz.ntmps191
  go_upto_region 1 with fail
  generalize hW : (w.alloc _) = W
  have bW : Below w.heap.size w W := by rw [← hW]; go_grown
  have q0 : Blk W w.heap.size 170 (stockCs C m) := by rw [← hW]; exact Blk.new w _ _
  clear hW
  have hl := q0.lt
  have SK := Lib.hid (show ∀ V, Below W.heap.size W V → (V.cell? ⟨w.heap.size, 0, none⟩ = some (cellsV C) ∧ V.cell? ⟨w.heap.size, 1, none⟩ = some (.int .i64 (m.t : Int)) ∧ V.cell? ⟨w.heap.size, 2, none⟩ = some (.int .i64 (m.o : Int)) ∧ V.cell? ⟨w.heap.size, 3, none⟩ = some (.int .i64 (m.n : Int))) from fun V hk => stock4 (q0.below hk hl))
  have bd := bdrewP W
  clear q0
  go_region_held3 (fun V => V.cell? ⟨w.heap.size, 0, none⟩ = some (cellsV C) ∧ V.cell? ⟨w.heap.size, 1, none⟩ = some (.int .i64 (m.t : Int)) ∧ V.cell? ⟨w.heap.size, 2, none⟩ = some (.int .i64 (m.o : Int)) ∧ V.cell? ⟨w.heap.size, 3, none⟩ = some (.int .i64 (m.n : Int))) (first | exact SK.out _ b3 | exact SK.out _ b2 | exact SK.out _ bd) (first
    | (go_at_call 276; (with_reducible refine (HL.out _).mono ?_); rintro e w2 ⟨rfl, hb2⟩; have b2 : Below W.heap.size W w2 := bd.trans hb2; have HG2 := Lib.hid (HG.out w2 (bW.trans (b2.mono bW.size))))
    | (go_at_call 275; refine HG2.out.mono ?_; rintro e w3 ⟨k, rfl, hM⟩; have b3 : Below W.heap.size W w3 := b2.trans (hM.2.2.mono b2.size)))
  all_goals go_wp2
  all_goals go_ret
  all_goals exact ⟨k, rfl, hM.from (bW.trans (b2.mono bW.size))⟩
theorem stake_any (C P : Nat) (m : Mp) (Q : Nat → Prop) (t : Int) (w : World) (hm : m.ok) (hQ : ∀ k, w.heap.size ≤ k → Q k) :
    Calls Tryz.prog 116 #[stockV C m, .int .i64 t] w fun e w' => ∃ k, e = .returned (pV k) ∧ MadeT (cellOps C P) w Q (guardT 0 t (takeB m)) k w' := by
  have hmf : ∀ (fn : Fn) (first cap : Array Value) (w : World), (Instr.makeFunc fn first cap).run Tryz.prog w = .ok (.func fn first cap) w := fun _ _ _ _ => rfl
  have HQ := Lib.hid hQ
  clear hQ
  go_enter Tryz.func116, Tryz.ntmps116
  go_upto_region 1 with fail
  generalize hW : (w.alloc _) = W
  have bW : Below w.heap.size w W := by rw [← hW]; go_grown
  have q0 : Blk W w.heap.size 170 (stockCs C m) := by rw [← hW]; exact Blk.new w _ _
  clear hW
  have sW := bW.size
  obtain ⟨d0, d1, d2, d3⟩ := stock4 q0
  have HU := Lib.hid (under_any C P m Q t 192 #[pV w.heap.size] (takeB m) W (by
    intro V hV
    have qa := HQ.out w.heap.size (Nat.le_refl _)
    have hlt := q0.lt
    refine called_some 192 _ V _ call_take1 ((take1_any C P m (fun b => (Q b ∧ b < W.heap.size) ∨ V.heap.size ≤ b) w.heap.size V hm (q0.keep hV (fun h => h qa)) (.inl ⟨qa, hlt⟩) (fun k hk => .inr hk)).mono ?_)
    rintro e V' ⟨t', rfl, hM⟩
    exact ⟨some ⟨t', 0, none⟩, rfl, hM.2.2, hM.task, fun j e => by injection e with e; injection e with e; rw [← e]; exact .inr hM.1⟩) (fun k hk => HQ.out k (by omega)))
  clear q0
  go_wp2_with (go_at_call 191; refine HU.out.mono ?_; rintro e w2 ⟨k, rfl, hM⟩)
  go_ret
  exact ⟨k, rfl, hM.from bW⟩
theorem sback_any (C P : Nat) (m : Mp) (Q : Nat → Prop) (t n : Int) (w : World) (hm : m.ok) (hn : 0 ≤ n ∧ n < m.n) (hQ : ∀ k, w.heap.size ≤ k → Q k) :
    Calls Tryz.prog 117 #[stockV C m, .int .i64 t, .int .i64 n] w fun e w' => ∃ k, e = .returned (pV k) ∧ MadeT (cellOps C P) w Q (guardT 0 t (backB m n)) k w' := by
  have hmf : ∀ (fn : Fn) (first cap : Array Value) (w : World), (Instr.makeFunc fn first cap).run Tryz.prog w = .ok (.func fn first cap) w := fun _ _ _ _ => rfl
  have HQ := Lib.hid hQ
  clear hQ
  go_enter Tryz.func117, Tryz.ntmps117
  go_upto_region 1 with fail
  generalize hW : ((w.alloc _).alloc _) = W
  have bW : Below w.heap.size w W := by rw [← hW]; go_grown
  have sW : W.heap.size = w.heap.size + 2 := by rw [← hW]; simp
  have q0 : Blk W w.heap.size 170 (stockCs C m) := by rw [← hW]; exact (Blk.new w _ _).alloc _
  have q1 : Blk W (w.heap.size + 1) 3 #[.int .i64 n] := by rw [← hW]; exact blk_two w _ _ _
  clear hW
  obtain ⟨d0, d1, d2, d3⟩ := stock4 q0
  have HU := Lib.hid (under_any C P m Q t 197 #[pV w.heap.size, pV (w.heap.size + 1)] (backB m n) W (by
    intro V hV
    have qa := HQ.out w.heap.size (Nat.le_refl _)
    have qb := HQ.out (w.heap.size + 1) (by omega)
    refine called_some 197 _ V _ call_back1 ((back1_any C P m (fun b => (Q b ∧ b < W.heap.size) ∨ V.heap.size ≤ b) n w.heap.size (w.heap.size + 1) V hm hn (q0.keep hV (fun h => h qa)) (q1.keep hV (fun h => h qb)) (.inl ⟨qa, q0.lt⟩) (.inl ⟨qb, q1.lt⟩) (fun k hk => .inr hk)).mono ?_)
    rintro e V' ⟨t', rfl, hM⟩
    exact ⟨some ⟨t', 0, none⟩, rfl, hM.2.2, hM.task, fun j e => by injection e with e; injection e with e; rw [← e]; exact .inr hM.1⟩) (fun k hk => HQ.out k (by omega)))
  clear q0 q1 sW
  go_wp2_with (go_at_call 191; refine HU.out.mono ?_; rintro e w2 ⟨k, rfl, hM⟩)
  go_ret
  exact ⟨k, rfl, hM.from bW⟩
def takeT (m : Mp) (t : Int) : Tre Itm := guardT 0 t (takeB m)
def backT (m : Mp) (t n : Int) : Tre Itm := guardT 0 t (backB m n)
theorem ptake_any (C P : Nat) (m : Mp) (Q : Nat → Prop) (t : Int) (N : Nat) (w : World) (hm : m.ok) (ht : 0 ≤ t) (hN : sizeN m ≤ N) (hL : ∀ W, Below w.heap.size w W → Calls Tryz.prog 101 #[cellsV C] W fun e w' => e = .returned (.int .i64 (N : Int)) ∧ Below W.heap.size W w') (hQ : ∀ k, w.heap.size ≤ k → Q k) :
    Calls Tryz.prog 34 #[cellsV C, mapV m, .int .i64 t] w fun e w' => ∃ k, e = .returned (pV k) ∧ MadeT (cellOps C P) w Q (takeT m t) k w' := by
  have HQ := Lib.hid hQ
  have HO := Lib.hid fun V (hV : Below w.heap.size w V) => popen_yes (cellsV C) m t N V hm ht hN (fun W hW => hL W (hV.trans (hW.mono hV.size)))
  have HS := Lib.hid fun V (hV : Below w.heap.size w V) => stake_any C P m Q t V hm (fun k hk => HQ.out k (by have := hV.size; omega))
  clear hQ hm hL
  go_enter Tryz.func34, Tryz.ntmps34
  go_upto_region 1 with fail
  generalize hW : (w.alloc _) = W
  have bW : Below w.heap.size w W := by rw [← hW]; go_grown
  have m0 : Blk W w.heap.size 24 #[.int .i64 (m.t : Int), .int .i64 (m.o : Int), .int .i64 (m.n : Int)] := by rw [← hW]; exact Blk.new w _ _
  clear hW
  have c0 := m0.cell 0 _ rfl
  have c1 := m0.cell 1 _ rfl
  have c2 := m0.cell 2 _ rfl
  have HO1 := Lib.hid (HO.out W bW)
  go_wp2_with (first
    | (go_at_call 115; refine HO1.out.mono ?_; rintro e w2 ⟨rfl, b2⟩; have m2 := m0.below b2 m0.lt; clear c0 c1 c2; have c0 := m2.cell 0 _ rfl; have c1 := m2.cell 1 _ rfl; have c2 := m2.cell 2 _ rfl; have HS2 := Lib.hid (HS.out w2 (bW.trans (b2.mono bW.size))))
    | (go_at_call 116; refine HS2.out.mono ?_; rintro e w3 ⟨k, rfl, hM⟩))
  go_ret
  exact ⟨k, rfl, hM.from (bW.trans (b2.mono bW.size))⟩
theorem pback_any (C P : Nat) (m : Mp) (Q : Nat → Prop) (t n : Int) (N : Nat) (w : World) (hm : m.ok) (ht : 0 ≤ t) (hn : 0 ≤ n ∧ n < m.n) (hN : sizeN m ≤ N) (hL : ∀ W, Below w.heap.size w W → Calls Tryz.prog 101 #[cellsV C] W fun e w' => e = .returned (.int .i64 (N : Int)) ∧ Below W.heap.size W w') (hQ : ∀ k, w.heap.size ≤ k → Q k) :
    Calls Tryz.prog 35 #[cellsV C, mapV m, .int .i64 t, .int .i64 n] w fun e w' => ∃ k, e = .returned (pV k) ∧ MadeT (cellOps C P) w Q (backT m t n) k w' := by
  have HQ := Lib.hid hQ
  have HO := Lib.hid fun V (hV : Below w.heap.size w V) => popen_yes (cellsV C) m t N V hm ht hN (fun W hW => hL W (hV.trans (hW.mono hV.size)))
  have HS := Lib.hid fun V (hV : Below w.heap.size w V) => sback_any C P m Q t n V hm hn (fun k hk => HQ.out k (by have := hV.size; omega))
  have hn1 := hn.1
  have hn2 := hn.2
  clear hQ hm hL hn
  go_enter Tryz.func35, Tryz.ntmps35
  go_upto_region 1 with fail
  generalize hW : (w.alloc _) = W
  have bW : Below w.heap.size w W := by rw [← hW]; go_grown
  have m0 : Blk W w.heap.size 24 #[.int .i64 (m.t : Int), .int .i64 (m.o : Int), .int .i64 (m.n : Int)] := by rw [← hW]; exact Blk.new w _ _
  clear hW
  have c0 := m0.cell 0 _ rfl
  have c1 := m0.cell 1 _ rfl
  have c2 := m0.cell 2 _ rfl
  have HO1 := Lib.hid (HO.out W bW)
  go_wp2_with (first
    | (go_at_call 115; refine HO1.out.mono ?_; rintro e w2 ⟨rfl, b2⟩; have m2 := m0.below b2 m0.lt; clear c0 c1 c2; have c0 := m2.cell 0 _ rfl; have c1 := m2.cell 1 _ rfl; have c2 := m2.cell 2 _ rfl; have HS2 := Lib.hid (HS.out w2 (bW.trans (b2.mono bW.size))))
    | (go_at_call 117; refine HS2.out.mono ?_; rintro e w3 ⟨k, rfl, hM⟩))
  go_ret
  exact ⟨k, rfl, hM.from (bW.trans (b2.mono bW.size))⟩
end Go.Proofs.YtldofbkjjmnooaaGreat
/- Layer 10: what a queue is in cells, and what its changes come to; no program is named here. 'nx t' is the cell Next of thread t; f reads the cells. -/
namespace Go.Proofs.YtldofbkjjmnooaaGreat
set_option linter.unusedVariables false
set_option linter.unusedSimpArgs false
/-- the first of a row, in the cells' form -/
def headOf : List Int → Int
  | [] => 0
  | t :: _ => t + 1
def lastOf (l : List Int) : Int := headOf l.reverse
theorem headOf_zero {l : List Int} (h : ∀ t ∈ l, 0 ≤ t) : headOf l = 0 ↔ l = [] := by
  cases l with
  | nil => simp [headOf]
  | cons t r =>
    have := h t (by simp)
    simp [headOf]; omega
theorem lastOf_zero {l : List Int} (h : ∀ t ∈ l, 0 ≤ t) : lastOf l = 0 ↔ l = [] := by
  rw [lastOf, headOf_zero (by simpa using h)]; simp
theorem lastOf_snoc (l : List Int) (t : Int) : lastOf (l ++ [t]) = t + 1 := by simp [lastOf, headOf]
theorem headOf_append {l : List Int} (h : l ≠ []) (r : List Int) : headOf (l ++ r) = headOf l := by
  cases l with
  | nil => exact absurd rfl h
  | cons t l => rfl
theorem lastOf_append {r : List Int} (h : r ≠ []) (l : List Int) : lastOf (l ++ r) = lastOf r := by
  rw [lastOf, List.reverse_append, headOf_append (by simpa using h)]; rfl
/-- a queue at cell a -/
structure QIs (nx : Int → Nat) (f : Nat → Int) (a : Nat) (l : List Int) : Prop where
  first : f a = headOf l
  last : f (a + 1) = lastOf l
  next : ∀ p t s, l = p ++ t :: s → f (nx t) = headOf s
theorem QIs.nil {nx : Int → Nat} {f : Nat → Int} {a : Nat} (h : f a = 0) (h1 : f (a + 1) = 0) : QIs nx f a [] :=
  ⟨h, h1, fun p t s e => by simp at e⟩
/-- cells that are not its own -/
theorem QIs.congr {nx : Int → Nat} {f g : Nat → Int} {a : Nat} {l : List Int} (h : QIs nx f a l) (h1 : g a = f a) (h2 : g (a + 1) = f (a + 1)) (h3 : ∀ t ∈ l, g (nx t) = f (nx t)) : QIs nx g a l :=
  ⟨h1.trans h.first, h2.trans h.last, fun p t s e => (h3 t (by rw [e]; simp)).trans (h.next p t s e)⟩
theorem QIs.push {nx : Int → Nat} {f g : Nat → Int} {a : Nat} {l : List Int} {t : Int} (h : QIs nx f a l) (h1 : g a = headOf (l ++ [t])) (h2 : g (a + 1) = t + 1) (h3 : g (nx t) = 0)
    (h4 : ∀ p u, l = p ++ [u] → g (nx u) = t + 1) (h5 : ∀ p u s, l = p ++ u :: s → s ≠ [] → g (nx u) = f (nx u)) : QIs nx g a (l ++ [t]) := by
  refine ⟨h1, by rw [h2, lastOf_snoc], fun p u s e => ?_⟩
  rcases List.eq_nil_or_concat s with rfl | ⟨s', z, rfl⟩
  · obtain ⟨_, e2⟩ := List.append_inj' e rfl
    obtain rfl : t = u := by simpa using e2
    exact h3
  · rw [List.concat_eq_append] at e ⊢
    rw [show p ++ u :: (s' ++ [z]) = (p ++ u :: s') ++ [z] by simp] at e
    obtain ⟨e1, e2⟩ := List.append_inj' e rfl
    obtain rfl : t = z := by simpa using e2
    by_cases hs : s' = []
    · subst hs
      exact h4 p u e1
    · rw [h5 p u s' e1 hs, h.next p u s' e1, headOf_append hs]
theorem QIs.pop {nx : Int → Nat} {f g : Nat → Int} {a : Nat} {r : List Int} {t : Int} (h : QIs nx f a (t :: r)) (h1 : g a = headOf r) (h2 : g (a + 1) = lastOf r) (h3 : ∀ u ∈ r, g (nx u) = f (nx u)) : QIs nx g a r :=
  ⟨h1, h2, fun p u s e => (h3 u (by rw [e]; simp)).trans (h.next (t :: p) u s (by rw [e]; rfl))⟩
theorem QIs.remove {nx : Int → Nat} {f g : Nat → Int} {a : Nat} {p s : List Int} {t : Int} (h : QIs nx f a (p ++ t :: s)) (h1 : g a = headOf (p ++ s)) (h2 : g (a + 1) = lastOf (p ++ s))
    (h3 : ∀ q u, p = q ++ [u] → g (nx u) = headOf s) (h4 : ∀ q u r, p = q ++ u :: r → r ≠ [] → g (nx u) = f (nx u)) (h5 : ∀ u ∈ s, g (nx u) = f (nx u)) : QIs nx g a (p ++ s) := by
  refine ⟨h1, h2, fun q u r e => ?_⟩
  rcases List.append_eq_append_iff.1 e with ⟨a', e1, e2⟩ | ⟨c', e1, e2⟩
  · -- u lies in s
    rw [h5 u (by rw [e2]; simp)]
    refine h.next (p ++ t :: a') u r ?_
    rw [e2]; simp
  · cases c' with
    | nil =>
      simp at e1 e2
      rw [h5 u (by rw [← e2]; simp)]
      exact h.next (p ++ [t]) u r (by rw [← e2]; simp)
    | cons x c' =>
      simp at e2
      obtain ⟨rfl, rfl⟩ := e2
      by_cases hc : c' = []
      · subst hc
        simpa using h3 q u e1
      · rw [h4 q u c' e1 hc, h.next q u (c' ++ t :: s) (by rw [e1]; simp), headOf_append hc, headOf_append hc]
/-- where a walk stands -/
theorem QIs.walk {nx : Int → Nat} {f : Nat → Int} {a k : Nat} {l : List Int} {t : Int} (h : QIs nx f a l) (hk : l[k]? = some t) : headOf (l.drop k) = t + 1 ∧ f (nx t) = headOf (l.drop (k + 1)) := by
  obtain ⟨hlt, e⟩ := List.getElem?_eq_some_iff.1 hk
  have e1 : l.drop k = t :: l.drop (k + 1) := by rw [List.drop_eq_getElem_cons hlt, e]
  refine ⟨by rw [e1]; rfl, h.next (l.take k) t _ ?_⟩
  rw [← e1, List.take_append_drop]
/-- cells read from a row of numbers -/
def rdL (m : List Int) (i : Nat) : Int := (m[i]?).getD 0
theorem rdL_set (m : List Int) (i j : Nat) (v : Int) (h : i < m.length) : rdL (m.set i v) j = if j = i then v else rdL m j := by
  unfold rdL
  rw [List.getElem?_set]
  by_cases e : i = j
  · subst e; simp [h]
  · simp [e, Ne.symm e]
end Go.Proofs.YtldofbkjjmnooaaGreat
/- The contract of cells.All: the values of all cells, in new memory. -/
namespace Go.Proofs.YtldofbkjjmnooaaGreat
open Go.ChangeShapes Go.WideShapes Go.ChangeAt Go.RowKit Go.Shelf
set_option linter.unusedVariables false
set_option maxRecDepth 100000
set_option linter.unusedSimpArgs false
attribute [local go_sem] Oper.semAt_some
/-- what a round keeps: all below n₀, and one box -/
def Kc (n₀ Bn : Nat) (W W' : World) : Prop := Below n₀ W W' ∧ W'.heap[Bn]? = W.heap[Bn]?
theorem kc_t {n₀ Bn : Nat} {A B C : World} (h : Kc n₀ Bn A B) (k : Kc n₀ Bn B C) : Kc n₀ Bn A C := ⟨h.1.trans k.1, k.2.trans h.2⟩
theorem kc_b {n₀ Bn : Nat} {w : World} (hn : n₀ ≤ w.heap.size) (hb : Bn < w.heap.size) (W : World) (l : Nat) (o o' : Obj) (hl : w.heap.size ≤ l) (h : W.heap[l]? = some o) (h1 : o.isCells = false) (h2 : o.isWalk = false) : Kc n₀ Bn W (W.putObj l o') :=
  ⟨belowK_b hn W l o o' hl h h1 h2, World.putObj_heap_other (by omega)⟩
theorem grown_of_below {W W' : World} (h : Below W.heap.size W W') : W.grownBy W' none := ⟨h.os, h.tape, h.output, h.size, fun k hk _ => h.block k hk⟩
theorem take_snoc_w {xs : List Int} {k : Nat} {x : Int} (h : xs[k]? = some x) : xs.take (k + 1) = xs.take k ++ [x] := by
  rw [List.take_add_one, h]; rfl
theorem take_prefix_w (xs : List Int) (k : Nat) : xs.take k <+: xs := List.take_prefix k xs
set_option maxRecDepth 100000 in
set_option maxHeartbeats 2000000 in
theorem valuesC_in (n : Nat) (hn : 1 ≤ n) (l Bn n₀ C S : Nat) (xs : List Int) (k0 : Int) (J Jx : List Int → World → Prop)
    (hJ : ∀ pre W W', J pre W → Below W.heap.size W W' → J pre W')
    (hY : ∀ pre x W, J pre W → pre.length < xs.length → YieldAt Fence.wide (n - 1) Tryz.prog l #[.int .u64 x] W fun e W' =>
      (e = .returned (.bool true) ∧ J (pre ++ [x]) W' ∧ Kc n₀ Bn W W') ∨ (e = .returned (.bool false) ∧ Jx (pre ++ [x]) W'))
    (W : World) (hB : Blk W Bn 26 #[cellsV C]) (hC : CellsAt W C S xs k0) (hC1 : C < n₀) (hS1 : S < n₀) (h0 : J [] W) :
    CallsIn Fence.wide n Tryz.prog 175 #[.func (.yield l) #[] #[], .pointer (some ⟨Bn, 0, none⟩)] W fun e W' => (∃ v, e = .returned v) ∧
      ((∃ ys, ys = xs ∧ J ys W') ∨ (∃ pre, pre <+: xs ∧ Jx pre W')) := by
  have hro : Fence.wide.round = none := rfl
  have hm := hC.few
  have c0 := hB.cell 0 _ rfl
  have HLen := Lib.hid (len_any C S xs k0 W hC)
  generalize hxn : xs.length = N at *
  have HX := Lib.hid hxn
  clear hxn
  refine callsIn_of_wp Tryz.func175 rfl trivial ?_ hro
  simp only [Tryz.ntmps175, List.size_toArray, List.length_cons, List.length_nil, Nat.reduceAdd, Nat.reduceSub, Array.replicate_succ, Array.replicate_zero, List.push_toArray, List.append_toArray, List.nil_append, List.cons_append]
  gi_wp2_with (refine ⟨trivial, ?_⟩; gi_at_call 101; refine (callsIn_wide.2 HLen.out).mono ?_; rintro e w1 ⟨rfl, hb⟩)
  have B1 := hB.below hb hB.lt
  have C1 := hC.keep (Keep.ofBelow (Q := fun _ => False) hb) (fun h => h) (fun h => h)
  have J1 := hJ [] W w1 h0 hb
  clear c0
  gi_loopw [6] (fun i wr => ∃ k : Nat, k ≤ N ∧ i = .int .i64 k ∧ J (xs.take k) wr ∧ Blk wr Bn 26 #[cellsV C] ∧ CellsAt wr C S xs k0)
    (fun i wr => N - (intOf i).toNat)
  case atStart => exact ⟨0, Nat.zero_le _, rfl, J1, B1, C1⟩
  case round =>
    obtain ⟨k, hk, rfl, hJ2, hB2, hC2⟩ := hrel
    by_cases hlt : k < N
    · obtain ⟨x, hx⟩ : ∃ x, xs[k]? = some x := ⟨_, List.getElem?_eq_getElem (by rw [HX.out]; exact hlt)⟩
      have hlen : (xs.take k).length < N := by rw [List.length_take, HX.out]; omega
      obtain ⟨fn, tmps, assign, body, hy, hR⟩ := hY (xs.take k) x wr hJ2 hlen
      have HT := Lib.hid (take_snoc_w hx)
      have HP := Lib.hid (pLoad_any S xs k x wr hC2.row hx (by rw [HX.out]; omega))
      rw [HX.out] at HP
      have q0 := hB2.cell 0 _ rfl
      have q1 := hC2.own.cell 0 _ rfl
      rw [HX.out] at q1
      clear hx
      have hm1 : 0 ≤ (k : Int) := by omega
      have HM := Lib.hid (show (k : Int) + 1 ≤ 16777216 by omega)
      clear hm
      have hmeth : ∀ W, (method 481 135 (rowV S N) "Load").run Tryz.prog W = .ok (401, rowV S N) W := fun _ => by kernel_rfl
      gi_wp2_with (refine ⟨trivial, ?_⟩; gi_at_call 401; refine (callsIn_wide.2 HP.out).mono ?_; rintro e w3 ⟨rfl, rfl⟩)
      refine hR.mono ?_
      rintro e W3 (⟨rfl, hJ3, hk3⟩ | ⟨rfl, hJx3⟩)
      · have B3 : Blk W3 Bn 26 #[cellsV C] := hk3.2.trans hB2
        have C3 : CellsAt W3 C S xs k0 := ⟨hC2.own.below hk3.1 hC1, hC2.row.below hk3.1 hS1, hC2.ne, hC2.few⟩
        rw [← HT.out] at hJ3
        have hkm := HM.out
        have hk1 : (k : Int) + 1 ≤ 9223372036854775807 := by omega
        clear hkm q0 q1 hmeth
        gi_wp2
        go_roundw
        case rel => exact ⟨k + 1, by omega, by go_num, hJ3, B3, C3⟩
        case measure => simp [intOf]; omega
      · rw [← HT.out] at hJx3
        clear q0 q1 hmeth
        gi_wp2
        refine bodyPost_ret (results_none rfl _ _ _) rfl ?_
        exact ⟨⟨_, rfl⟩, .inr ⟨_, take_prefix_w xs (k + 1), hJx3⟩⟩
    · have hke : k = N := by omega
      have HE := Lib.hid hke
      clear hke hm
      gi_wp2
      go_end0
      refine ⟨⟨_, rfl⟩, .inl ⟨_, rfl, ?_⟩⟩
      rw [HE.out, ← HX.out, List.take_length] at hJ2
      exact hJ2
theorem values_in (n : Nat) (C : Nat) (w : World) :
    CallsIn Fence.wide n Tryz.prog 98 #[cellsV C] w fun e w' => e = .returned (.func (.func 175) #[] #[.pointer (some ⟨w.heap.size, 0, none⟩)]) ∧ w' = w.alloc (.cells #[cellsV C] 26) := by
  have hro : Fence.wide.round = none := rfl
  refine callsIn_of_wp Tryz.func98 rfl trivial ?_ hro
  simp only [Tryz.ntmps98, List.size_toArray, List.length_cons, List.length_nil, Nat.reduceAdd, Nat.reduceSub, Array.replicate_succ, Array.replicate_zero, List.push_toArray, List.append_toArray, List.nil_append, List.cons_append]
  gi_wp2
  go_ret
  exact ⟨rfl, by simp⟩
theorem valuesC_stops (n : Nat) (hn : 1 ≤ n) (Bn n₀ C S : Nat) (xs : List Int) (k0 : Int) (w : World) (hB : Blk w Bn 26 #[cellsV C]) (hC : CellsAt w C S xs k0) (hC1 : C < n₀) (hS1 : S < n₀) :
    SeqStopsK Fence.wide n Tryz.prog 175 #[.pointer (some ⟨Bn, 0, none⟩)] (fun x : Int => #[.int .u64 x]) (Kc n₀ Bn) (fun ys => ys = xs) (fun pre => pre <+: xs) xs.length w := fun l J Jx W hW hJ _ hY h0 =>
  valuesC_in n hn l Bn n₀ C S xs k0 J Jx (fun pre W W' h hb => hJ pre W W' none h (grown_of_below hb) (fun r e => by cases e)) hY W (hB.below hW hB.lt)
    (hC.keep (Keep.ofBelow (Q := fun _ => False) hW) (fun h => h) (fun h => h)) hC1 hS1 h0
theorem u64_size1 : (Tryz.prog.info? 47).map (fun i => (i.zero, i.size, i.bytes)) = some (some (.int .u64 0), 1, 8) := u64_info
/-- behind the reading: the variable holds a slice of the words, in new memory -/
def AllPost (n₀ a : Nat) (xs : List Int) (w w' : World) : Prop :=
  Below n₀ w w' ∧ ∃ u, Boxed w' a 38 u ∧ w'.ownsRow n₀ 47 1 u xs.length (xs.map (.int .u64))
set_option maxRecDepth 100000 in
set_option maxHeartbeats 4000000 in
theorem allC_in (n : Nat) (hn : 3 ≤ n) (b a n₀ C S : Nat) (xs : List Int) (k0 : Int) (w : World) (hB : Blk w b 26 #[cellsV C]) (hA : Boxed w a 38 (.slice none 0 0)) (hn₀ : n₀ ≤ a) (hC : CellsAt w C S xs k0) (hC1 : C < n₀) (hS1 : S < n₀) :
    CallsIn Fence.wide n Tryz.prog 97 #[.pointer (some ⟨b, 0, none⟩), .pointer (some ⟨a, 0, none⟩)] w fun e w' => e = .returned unitV ∧ AllPost n₀ a xs w w' := by
  have h1 : 1 ≤ n := by omega
  have hro : Fence.wide.round = none := rfl
  have halt := hA.lt
  have hfew := hC.few
  obtain ⟨i0, hi, hz0, hz1, hz2⟩ := info_parts u64_info
  have c0 := hB.cell 0 _ rfl
  refine callsIn_of_wp_marks Tryz.func97 rfl trivial ?_ hro
  simp only [Tryz.ntmps97, List.size_toArray, List.length_cons, List.length_nil, Nat.reduceAdd, Nat.reduceSub, Array.replicate_succ, Array.replicate_zero, List.push_toArray, List.append_toArray, List.nil_append, List.cons_append]
  gi_wp2_with (refine ⟨trivial, ?_⟩; gi_at_call 98; refine (values_in (n - 1) C _).mono ?_; rintro e w' ⟨rfl, rfl⟩)
  have bn : Blk (w.alloc (.cells #[cellsV C] 26)) w.heap.size 26 #[cellsV C] := Blk.new w _ _
  have hB0 : Below w.heap.size w (w.alloc (.cells #[cellsV C] 26)) := (Below.refl _ w).alloc (Nat.le_refl _) _
  have hsz : (w.alloc (.cells #[cellsV C] 26)).heap.size = w.heap.size + 1 := by simp
  have bA := hA.alloc (.cells #[cellsV C] 26)
  obtain ⟨W0, hW0⟩ : ∃ W0, w.alloc (.cells #[cellsV C] 26) = W0 := ⟨_, rfl⟩
  rw [hW0] at bn hB0 hsz bA ⊢
  clear hW0
  have hCW := hC.keep (Keep.ofBelow (Q := fun _ => False) hB0) (fun h => h) (fun h => h)
  refine wpIn_rangeFunc_ownH hro h1 (gf := 175) (lb := #[.pointer (some ⟨w.heap.size, 0, none⟩)]) rfl trivial (enters_of Tryz.func175 (by kernel_rfl) rfl)
    (valuesC_stops (n - 1) (by omega) w.heap.size n₀ C S xs k0 W0 bn hCW hC1 hS1) kc_t (kc_b (by omega) (by omega)) (Below.refl _ _) (fun _ => rfl)
    (fun (pre : List Int) W => (∃ u, Boxed W a 38 u ∧ W.ownsRow n₀ 47 1 u pre.length (pre.map (.int .u64)) ∧ True) ∧ (Boxed W w.heap.size 26 (cellsV C) ∧ Below n₀ w W))
    (fun c pre W => False)
    (OwnFrom.and (Own.from (holdsRow_own n₀ a 38 47 1 (fun pre : List Int => pre.length) (fun pre : List Int => pre.map (.int .u64)) (fun _ _ => True)) _) (OwnFrom.and (Own.from (boxed_own _ _ (fun _ => cellsV C)) _) (ownFrom_below (by omega) (by omega))))
    (fun c => ownFrom_pure _ _)
    ⟨⟨_, bA, World.ownsRow_nil _ _ _ _, trivial⟩, bn, hB0.mono (by omega)⟩
    (fun x a' W => a' = { tmps := #[.pointer (some ⟨b, 0, none⟩), .pointer (some ⟨a, 0, none⟩), .int .u64 x, cellsV C, .func (.func 175) #[] #[.pointer (some ⟨w.heap.size, 0, none⟩)], .int .u64 x, undef, undef, undef, undef], defers := [] })
    (fun x a' _ X Y row hs hg hr => hs)
    ?assign ?body ?done ?stop
  case assign =>
    rintro l pre x W K hI hK
    gi_wp2
    exact hK _ _ (KeepsFrom.refl _ _) ⟨Below.refl _ _, rfl⟩ hI rfl
  case body =>
    rintro l pre x a' W hl ⟨r, hr⟩ ⟨⟨u, bF1, hrow, _⟩, bP, hB1⟩ rfl hlt
    have h1' : 1 ≤ n - 1 - 1 := by omega
    have hs1 := hB1.size
    have cF := bF1.cell
    have HC := Lib.hid (show (pre ++ [x]).map (Value.int .u64) = pre.map (Value.int .u64) ++ [.int .u64 x] by simp)
    gi_wp2_with (gi_at_builtin; refine wpListIn_append_own _ rfl _ _ 38 rfl n₀ 47 i0 (.int .u64 0) 1 8 Tryz.underlying38 hi hz0 hz1 hz2 rfl (by decide) _ _ _ rfl (hrow.alloc _) ⟨W.heap.size, 0, none⟩ 1 1 [.int .u64 x] rfl rfl (cell_one_new _ _ _) (by simp [Value.oneCell']) (by unfold maxLen; omega) (by omega) (by simp; omega) ?_; intro v' w2 hown' hgrow _; obtain ⟨g', cap', rfl⟩ := ownsRow_succ hown'; obtain ⟨hv1, hv2, hr2, hk2, hb2⟩ := bF1.appended (by decide) hrow (by omega) hn₀ hown' hgrow; have hc1 := hv1.cell; have hf1 := hv1.frozen)
    have bP2 : Boxed w2 w.heap.size 26 (cellsV C) := (bP.alloc _).kept hgrow (bP.not_row (by decide) hrow)
    have bP3 := bP2.other (B' := a) (by omega) (.slice (some ⟨g', 0, none⟩) (pre.length + 1) cap')
    exact ⟨hk2.from _, ⟨hb2, bP3.trans bP.symm⟩, ⟨⟨_, hv2, by rw [HC.out]; simpa using hr2, trivial⟩, bP3, hB1.trans hb2⟩⟩
  case done =>
    rintro D ys W hD rfl ⟨⟨u, bF1, hrow, _⟩, bP, hB1⟩ hK
    gi_wp2
    refine ⟨by simp, .inl ⟨_, _, rfl, run_takeDeferred hK, ?_⟩⟩
    refine ⟨_, results_none rfl _ _ _, rfl, hB1.trans (belowK_b (w := w) (by omega) W D _ _ (by omega) hK rfl rfl), u, ?_, ?_⟩
    · exact bF1.kept (grownBy_putObj' _ D (.deferred none)) (fun e => by cases e; omega)
    · exact ownsRow_putObj hrow _ hK rfl
  case stop =>
    rintro D c pre W hD hpre h hK
    exact h.elim
theorem call_allC : ∀ (W : World) (args : Array Value), (callFunc 97 args).run Tryz.prog W = .ok (.enter 97 args) W := by
  intro W args
  go_simp
theorem allC_any (b a n₀ C S : Nat) (xs : List Int) (k0 : Int) (w : World) (hB : Blk w b 26 #[cellsV C]) (hA : Boxed w a 38 (.slice none 0 0)) (hn₀ : n₀ ≤ a) (hC : CellsAt w C S xs k0) (hC1 : C < n₀) (hS1 : S < n₀) :
    Calls Tryz.prog 97 #[.pointer (some ⟨b, 0, none⟩), .pointer (some ⟨a, 0, none⟩)] w fun e w' => e = .returned unitV ∧ AllPost n₀ a xs w w' :=
  callsIn_wide.1 (allC_in 3 (Nat.le_refl _) b a n₀ C S xs k0 w hB hA hn₀ hC hC1 hS1)
/-- the values of all cells -/
def AllIs (w : World) (xs : List Int) (e : Ending) (w' : World) : Prop :=
  ∃ u, e = .returned u ∧ Below w.heap.size w w' ∧ w'.ownsRow w.heap.size 47 1 u xs.length (xs.map (.int .u64))
theorem all_any (C S : Nat) (xs : List Int) (k0 : Int) (w : World) (hC : CellsAt w C S xs k0) :
    Calls Tryz.prog 17 #[cellsV C] w (AllIs w xs) := by
  have hCl := hC.own.lt
  have hSl := hC.row.lt
  have hmf : ∀ (fn : Fn) (first cap : Array Value) (w : World), (Instr.makeFunc fn first cap).run Tryz.prog w = .ok (.func fn first cap) w := fun _ _ _ _ => rfl
  go_enter Tryz.func17, Tryz.ntmps17
  go_upto_region 2 with fail
  generalize hW : (w.alloc _).alloc _ = W
  have bW : Below w.heap.size w W := by rw [← hW]; go_grown
  have cW : Blk W w.heap.size 26 #[cellsV C] := by rw [← hW]; exact (Blk.new w _ _).alloc _
  have aW : Boxed W (w.heap.size + 1) 38 (.slice none 0 0) := by rw [← hW]; exact blk_two w _ _ _
  have CW : CellsAt W C S xs k0 := hC.keep (Keep.ofBelow (Q := fun _ => False) bW) (fun h => h) (fun h => h)
  clear hW
  have HA := Lib.hid (attempt_any 97 _ W _ call_allC (allC_any w.heap.size (w.heap.size + 1) w.heap.size C S xs k0 W cW aW (by omega) CW hCl hSl))
  go_upto_region 3 with (refine HA.out.mono ?_; rintro e w1 ⟨rfl, hb, u, hu, hrow⟩)
  obtain ⟨ua, ul, uc, rfl⟩ : ∃ ua ul uc, u = .slice ua ul uc := by
    rcases hrow.2 with ⟨rfl, _⟩ | ⟨g, cap, cur, rfl, _⟩
    · exact ⟨_, _, _, rfl⟩
    · exact ⟨_, _, _, rfl⟩
  have u0 := hu.cell
  go_wp2_with fail
  go_ret
  exact ⟨_, rfl, bW.trans hb, hrow⟩
/- nil cells -/
set_option maxRecDepth 100000 in
set_option maxHeartbeats 2000000 in
theorem valuesN_in (n : Nat) (hn : 1 ≤ n) (l Bn n₀ : Nat) (J Jx : List Int → World → Prop)
    (hJ : ∀ pre W W', J pre W → Below W.heap.size W W' → J pre W')
    (W : World) (hB : Blk W Bn 26 #[.pointer none]) (h0 : J [] W) :
    CallsIn Fence.wide n Tryz.prog 175 #[.func (.yield l) #[] #[], .pointer (some ⟨Bn, 0, none⟩)] W fun e W' => (∃ v, e = .returned v) ∧
      ((∃ ys, ys = [] ∧ J ys W') ∨ (∃ pre, pre <+: [] ∧ Jx pre W')) := by
  have hro : Fence.wide.round = none := rfl
  have c0 := hB.cell 0 _ rfl
  have HLen := Lib.hid (len_nil W)
  refine callsIn_of_wp Tryz.func175 rfl trivial ?_ hro
  simp only [Tryz.ntmps175, List.size_toArray, List.length_cons, List.length_nil, Nat.reduceAdd, Nat.reduceSub, Array.replicate_succ, Array.replicate_zero, List.push_toArray, List.append_toArray, List.nil_append, List.cons_append]
  gi_wp2_with (refine ⟨trivial, ?_⟩; gi_at_call 101; refine (callsIn_wide.2 HLen.out).mono ?_; rintro e w1 ⟨rfl, hb⟩)
  have J1 := hJ [] W w1 h0 hb
  clear c0
  gi_loopw [6] (fun i wr => i = .int .i64 0 ∧ J [] wr)
    (fun i wr => 0)
  case atStart => exact ⟨rfl, J1⟩
  case round =>
    obtain ⟨rfl, hJ2⟩ := hrel
    gi_wp2
    go_end0
    exact ⟨⟨_, rfl⟩, .inl ⟨[], rfl, hJ2⟩⟩
theorem valuesN_stops (n : Nat) (hn : 1 ≤ n) (Bn n₀ : Nat) (w : World) (hB : Blk w Bn 26 #[.pointer none]) :
    SeqStopsK Fence.wide n Tryz.prog 175 #[.pointer (some ⟨Bn, 0, none⟩)] (fun x : Int => #[.int .u64 x]) (Kc n₀ Bn) (fun ys => ys = []) (fun pre => pre <+: []) 0 w := fun l J Jx W hW hJ _ hY h0 =>
  valuesN_in n hn l Bn n₀ J Jx (fun pre W W' h hb => hJ pre W W' none h (grown_of_below hb) (fun r e => by cases e)) W (hB.below hW hB.lt) h0
theorem valuesN_call (n : Nat) (w : World) :
    CallsIn Fence.wide n Tryz.prog 98 #[.pointer none] w fun e w' => e = .returned (.func (.func 175) #[] #[.pointer (some ⟨w.heap.size, 0, none⟩)]) ∧ w' = w.alloc (.cells #[.pointer none] 26) := by
  have hro : Fence.wide.round = none := rfl
  refine callsIn_of_wp Tryz.func98 rfl trivial ?_ hro
  simp only [Tryz.ntmps98, List.size_toArray, List.length_cons, List.length_nil, Nat.reduceAdd, Nat.reduceSub, Array.replicate_succ, Array.replicate_zero, List.push_toArray, List.append_toArray, List.nil_append, List.cons_append]
  gi_wp2
  go_ret
  exact ⟨rfl, by simp⟩
set_option maxRecDepth 100000 in
set_option maxHeartbeats 4000000 in
theorem allN_in (n : Nat) (hn : 3 ≤ n) (b a n₀ : Nat) (w : World) (hB : Blk w b 26 #[.pointer none]) (hA : Boxed w a 38 (.slice none 0 0)) (hn₀ : n₀ ≤ a) :
    CallsIn Fence.wide n Tryz.prog 97 #[.pointer (some ⟨b, 0, none⟩), .pointer (some ⟨a, 0, none⟩)] w fun e w' => e = .returned unitV ∧ Below n₀ w w' ∧ Boxed w' a 38 (.slice none 0 0) := by
  have h1 : 1 ≤ n := by omega
  have hro : Fence.wide.round = none := rfl
  have halt := hA.lt
  have c0 := hB.cell 0 _ rfl
  refine callsIn_of_wp_marks Tryz.func97 rfl trivial ?_ hro
  simp only [Tryz.ntmps97, List.size_toArray, List.length_cons, List.length_nil, Nat.reduceAdd, Nat.reduceSub, Array.replicate_succ, Array.replicate_zero, List.push_toArray, List.append_toArray, List.nil_append, List.cons_append]
  gi_wp2_with (refine ⟨trivial, ?_⟩; gi_at_call 98; refine (valuesN_call (n - 1) _).mono ?_; rintro e w' ⟨rfl, rfl⟩)
  have bn : Blk (w.alloc (.cells #[.pointer none] 26)) w.heap.size 26 #[.pointer none] := Blk.new w _ _
  have hB0 : Below w.heap.size w (w.alloc (.cells #[.pointer none] 26)) := (Below.refl _ w).alloc (Nat.le_refl _) _
  have hsz : (w.alloc (.cells #[.pointer none] 26)).heap.size = w.heap.size + 1 := by simp
  have bA := hA.alloc (.cells #[.pointer none] 26)
  obtain ⟨W0, hW0⟩ : ∃ W0, w.alloc (.cells #[.pointer none] 26) = W0 := ⟨_, rfl⟩
  rw [hW0] at bn hB0 hsz bA ⊢
  clear hW0
  refine wpIn_rangeFunc_ownH hro h1 (gf := 175) (lb := #[.pointer (some ⟨w.heap.size, 0, none⟩)]) rfl trivial (enters_of Tryz.func175 (by kernel_rfl) rfl)
    (valuesN_stops (n - 1) (by omega) w.heap.size n₀ W0 bn) kc_t (kc_b (by omega) (by omega)) (Below.refl _ _) (fun _ => rfl)
    (fun (pre : List Int) W => (pre = [] ∧ Boxed W a 38 (.slice none 0 0)) ∧ Below n₀ w W)
    (fun c pre W => False)
    (OwnFrom.and (OwnFrom.and (ownFrom_pure _ _) (Own.from (boxed_own _ _ (fun _ => .slice none 0 0)) _)) (ownFrom_below (by omega) (by omega)))
    (fun c => ownFrom_pure _ _)
    ⟨⟨rfl, bA⟩, hB0.mono (by omega)⟩
    (fun x a' W => True)
    (fun x a' _ X Y row hs hg hr => hs)
    ?assign ?body ?done ?stop
  case assign =>
    rintro l pre x W K hI hK
    gi_wp2
    exact hK _ _ (KeepsFrom.refl _ _) ⟨Below.refl _ _, rfl⟩ hI trivial
  case body =>
    rintro l pre x a' W hl ⟨r, hr⟩ _ _ hlt
    exact absurd hlt (Nat.not_lt_zero _)
  case done =>
    rintro D ys W hD rfl ⟨⟨_, bF1⟩, hB1⟩ hK
    gi_wp2
    refine ⟨by simp, .inl ⟨_, _, rfl, run_takeDeferred hK, ?_⟩⟩
    exact ⟨_, results_none rfl _ _ _, rfl, hB1.trans (belowK_b (w := w) (by omega) W D _ _ (by omega) hK rfl rfl), bF1.kept (grownBy_putObj' _ D (.deferred none)) (fun e => by cases e; omega)⟩
  case stop =>
    rintro D c pre W hD hpre h hK
    exact h.elim
theorem all_nil (w : World) : Calls Tryz.prog 17 #[.pointer none] w fun e w' => e = .returned (.slice none 0 0) ∧ Below w.heap.size w w' := by
  have hmf : ∀ (fn : Fn) (first cap : Array Value) (w : World), (Instr.makeFunc fn first cap).run Tryz.prog w = .ok (.func fn first cap) w := fun _ _ _ _ => rfl
  go_enter Tryz.func17, Tryz.ntmps17
  go_upto_region 2 with fail
  generalize hW : (w.alloc _).alloc _ = W
  have bW : Below w.heap.size w W := by rw [← hW]; go_grown
  have cW : Blk W w.heap.size 26 #[.pointer none] := by rw [← hW]; exact (Blk.new w _ _).alloc _
  have aW : Boxed W (w.heap.size + 1) 38 (.slice none 0 0) := by rw [← hW]; exact blk_two w _ _ _
  clear hW
  have HA := Lib.hid (attempt_any 97 _ W _ call_allC (callsIn_wide.1 (allN_in 3 (Nat.le_refl _) w.heap.size (w.heap.size + 1) w.heap.size W cW aW (by omega))))
  go_upto_region 3 with (refine HA.out.mono ?_; rintro e w1 ⟨rfl, hb, hu⟩)
  have u0 := hu.cell
  go_wp2_with fail
  go_ret
  exact ⟨rfl, bW.trans hb⟩
end Go.Proofs.YtldofbkjjmnooaaGreat
/- Laws over tasks of latches: cells, and tasks over them, each of blocks of its own. -/
namespace Go.Proofs.YtldofbkjjmnooaaGreat
open Go.ChangeShapes Go.WideShapes Go.ChangeAt Go.RowKit
set_option linter.unusedVariables false
set_option maxRecDepth 100000
set_option linter.unusedSimpArgs false
/-- the trees of latches, step by step -/
def outT (a : Nat) (t v : Int) : Tre Itm := opT (dropI a t) fun _ => retT v
def lstT (a : Nat) (t : Int) (i : Nat) (v : Int) : Tre Itm := opT (storeI i v) fun _ => outT a t v
def inT (a : Nat) (t : Int) (i : Nat) : Tre Itm := opT (loadI i) fun v => lstT a t i v
def lsT (i : Nat) (v : Int) : Tre Itm := opT (storeI i v) fun _ => retT v
theorem looseT_eq (i : Nat) : looseT i = opT (loadI i) fun v => lsT i v := rfl
theorem out_eq (a : Nat) (t v : Int) : itmT [dropI a t, readyI v] 0 = outT a t v := rfl
theorem take_eq (i : Nat) (t : Int) : itmT [takeI i t] 0 = spinT (takeI i t) := spin_end _
theorem guardT_eq (i : Nat) (t : Int) (B : Tre Itm) : guardT i t B = opT (takeI i t) (fun v => if v = 0 ∨ v = -2147483648 then guardT i t B else bindT (fun v => outT i t v) B) := by
  have e : guardT i t B = bindT (fun v => itmT [dropI i t, readyI v] 0) (bindT (fun _ => B) (spinT (takeI i t))) := by unfold guardT; rw [take_eq]
  conv => lhs; rw [e, spinT_eq, bindT_op, bindT_op]
  congr 1
  funext v
  by_cases h : v = 0 ∨ v = -2147483648
  · rw [if_pos h, if_pos h, e]
  · rw [if_neg h, if_neg h, bindT_ret]
    rfl
theorem bump_in (a : Nat) (t : Int) (i : Nat) : bindT (fun v => outT a t v) (looseT i) = inT a t i := by
  rw [looseT_eq, bindT_op]
  unfold inT
  congr 1
  funext v
  unfold lsT lstT
  rw [bindT_op]
  congr 1
  funext u
  rw [bindT_ret]
theorem bumpT_eq (a : Nat) (t : Int) (i : Nat) : bumpT a t i = opT (takeI a t) (fun v => if v = 0 ∨ v = -2147483648 then bumpT a t i else inT a t i) := by
  show guardT a t (looseT i) = opT (takeI a t) (fun v => if v = 0 ∨ v = -2147483648 then guardT a t (looseT i) else inT a t i)
  conv => lhs; rw [guardT_eq, bump_in]
theorem none_eq (i : Nat) (t : Int) : guardT i t (retT 0) = opT (takeI i t) (fun v => if v = 0 ∨ v = -2147483648 then guardT i t (retT 0) else outT i t 0) := by
  conv => lhs; rw [guardT_eq, bindT_ret]
theorem oper_take {m : List Int} {i : Nat} {t c : Int} (h : m[i]? = some c) (ht : 0 ≤ t ∧ t ≤ 100000) : operS m (takeI i t) = if c = 0 then (m.set i (t + 1), 1, true) else (m, 0, false) := by
  simp [operS, h, markS_eq ht]
theorem oper_drop {m : List Int} {i : Nat} {t c : Int} (h : m[i]? = some c) (ht : 0 ≤ t ∧ t ≤ 100000) : operS m (dropI i t) = if c = t + 1 then (m.set i 0, 1, true) else (m, 0, true) := by
  simp [operS, h, markS_eq ht]
theorem oper_load {m : List Int} {i : Nat} {c : Int} (h : m[i]? = some c) (hc : 0 ≤ c ∧ c ≤ 1000000000000) : operS m (loadI i) = (m, c, true) := by
  have e : wrap64 c = c := IntWalk.wrap64_in _ ⟨by omega, by omega⟩
  simp [operS, h, e]
theorem oper_store {m : List Int} {i : Nat} {c v : Int} (h : m[i]? = some c) (hv : 0 ≤ v ∧ v ≤ 1000000000000) : operS m (storeI i v) = (m.set i (v + 1), 1, true) := by
  have e : IntKind.u64.wrap (IntKind.u64.wrap v + 1) = v + 1 := by
    rw [IntKind.wrap_u64, IntKind.wrap_u64]
    omega
  simp [operS, h, e]
theorem count_in {m : List Int} {x : Itm} {c : Int} (h : m[x.at']? = some c) : countS m x = 1 := by
  have := (List.getElem?_eq_some_iff.1 h).1
  simp [countS, this]
/-- one of several turned -/
def upd {α : Type} (τ : Nat → Option α) (k : Nat) (x : Option α) : Nat → Option α := fun j => if j = k then x else τ j
theorem upd_same {α : Type} (τ : Nat → Option α) (k : Nat) (x : Option α) : upd τ k x k = x := by simp [upd]
theorem upd_ne {α : Type} (τ : Nat → Option α) (k j : Nat) (x : Option α) (h : j ≠ k) : upd τ k x j = τ j := by simp [upd, h]
theorem upd_id {α : Type} (τ : Nat → Option α) (k : Nat) : upd τ k (τ k) = τ := by
  funext j
  unfold upd
  split
  · next h => rw [h]
  · rfl
/-- cells that the call made, and tasks over them; X: blocks of the law's own -/
structure Wld (n0 : Nat) (X : Nat → Prop) (w : World) (C S : Nat) (m : List Int) (n : Int) (τ : Nat → Option (Nat × Tre Itm)) : Prop where
  cells : CellsAt w C S m n
  lo : n0 ≤ C ∧ n0 ≤ S ∧ n0 ≤ w.heap.size
  x : ∀ b, X b → b ≠ C ∧ b ≠ S ∧ b < w.heap.size
  tasks : ∃ lab : Nat → Nat, ∀ k t T, τ k = some (t, T) → ∃ Q, TkT (cellOps C 0) w t Q T ∧ ∀ b, Q b → n0 ≤ b ∧ ¬ X b ∧ b ≠ C ∧ b ≠ S ∧ lab b = k
theorem Wld.keep {n0 : Nat} {X F : Nat → Prop} {w w1 : World} {C S : Nat} {m : List Int} {n : Int} {τ : Nat → Option (Nat × Tre Itm)} (h : Wld n0 X w C S m n τ) (hk : Keep F w w1) (hF : ∀ b, F b → X b) : Wld n0 X w1 C S m n τ := by
  have hs := hk.size
  obtain ⟨h1, h2, h3, lab, h4⟩ := h
  refine ⟨h1.keep hk (fun hf => (h3 _ (hF _ hf)).1 rfl) (fun hf => (h3 _ (hF _ hf)).2.1 rfl), ⟨h2.1, h2.2.1, by omega⟩, fun b hb => ⟨(h3 b hb).1, (h3 b hb).2.1, by have := (h3 b hb).2.2; omega⟩, lab, fun k t T e => ?_⟩
  obtain ⟨Q, g1, g2⟩ := h4 k t T e
  exact ⟨Q, g1.keep hk (fun b hb hf => (g2 b hb).2.1 (hF b hf)), g2⟩
theorem Wld.below {n0 : Nat} {X : Nat → Prop} {w w1 : World} {C S : Nat} {m : List Int} {n : Int} {τ : Nat → Option (Nat × Tre Itm)} (h : Wld n0 X w C S m n τ) (hb : Below w.heap.size w w1) : Wld n0 X w1 C S m n τ := h.keep (Keep.ofBelow (Q := fun _ => False) hb) (fun _ h => h.elim)
/-- more blocks of the law's own -/
theorem Wld.grow {n0 : Nat} {X : Nat → Prop} {w w1 : World} {C S : Nat} {m : List Int} {n : Int} {τ : Nat → Option (Nat × Tre Itm)} (h : Wld n0 X w C S m n τ) (hb : Below w.heap.size w w1) (X' : Nat → Prop) (hX : ∀ b, X' b → X b ∨ (w.heap.size ≤ b ∧ b < w1.heap.size)) : Wld n0 X' w1 C S m n τ := by
  have hC := h.cells.own.lt
  have hS := h.cells.row.lt
  have h1 := h.below hb
  obtain ⟨a1, a2, a3, lab, a4⟩ := h
  obtain ⟨h1, h2, h3, _⟩ := h1
  refine ⟨h1, h2, fun b hb' => ?_, lab, fun k t T e => ?_⟩
  · rcases hX b hb' with hb' | hb'
    · exact h3 b hb'
    · omega
  · obtain ⟨Q, g1, g2⟩ := a4 k t T e
    refine ⟨Q, g1.still (Keep.ofBelow hb), fun b hb' => ⟨(g2 b hb').1, fun hx => ?_, (g2 b hb').2.2⟩⟩
    rcases hX b hx with hx | hx
    · exact (g2 b hb').2.1 hx
    · have := g1.lt b hb'; omega
theorem Wld.fewer {n0 : Nat} {X : Nat → Prop} {w : World} {C S : Nat} {m : List Int} {n : Int} {τ τ' : Nat → Option (Nat × Tre Itm)} (h : Wld n0 X w C S m n τ) (hs : ∀ k x, τ' k = some x → τ k = some x) : Wld n0 X w C S m n τ' := by
  obtain ⟨h1, h2, h3, lab, h4⟩ := h
  exact ⟨h1, h2, h3, lab, fun k t T e => h4 k t T (hs k _ e)⟩
/-- a task that is new -/
theorem Wld.new {n0 : Nat} {X : Nat → Prop} {w w' : World} {C S t : Nat} {m : List Int} {n : Int} {τ : Nat → Option (Nat × Tre Itm)} {T : Tre Itm} (h : Wld n0 X w C S m n τ) (k : Nat) (hM : MadeT (cellOps C 0) w (fun b => w.heap.size ≤ b) T t w') : Wld n0 X w' C S m n (upd τ k (some (t, T))) := by
  have hC := h.cells.own.lt
  have hS := h.cells.row.lt
  have hb := hM.2.2
  have h1 := h.below hb
  obtain ⟨a1, a2, a3, lab, a4⟩ := h
  obtain ⟨h1, h2, h3, _⟩ := h1
  refine ⟨h1, h2, h3, fun b => if b < w.heap.size then lab b else k, fun j t' T' e => ?_⟩
  unfold upd at e
  split at e
  · next hj =>
    simp only [Option.some.injEq, Prod.mk.injEq] at e
    obtain ⟨rfl, rfl⟩ := e
    refine ⟨_, TkT.new hM.2.1 hM.1, fun b hb' => ?_⟩
    have hge : w.heap.size ≤ b := hb'.1
    exact ⟨by omega, fun hx => by have := (a3 b hx).2.2; omega, by omega, by omega, (if_neg (by omega)).trans hj.symm⟩
  · obtain ⟨Q, g1, g2⟩ := a4 j t' T' e
    refine ⟨Q, g1.still (Keep.ofBelow hb), fun b hb' => ?_⟩
    have := g1.lt b hb'
    obtain ⟨e1, e2, e3, e4, e5⟩ := g2 b hb'
    exact ⟨e1, e2, e3, e4, (if_pos this).trans e5⟩
/-- a step of one of them -/
theorem wstep {n0 : Nat} {X : Nat → Prop} {w : World} {C S t : Nat} {m : List Int} {n : Int} {τ : Nat → Option (Nat × Tre Itm)} {x : Itm} {κ : Int → Tre Itm} (k : Nat) (h : Wld n0 X w C S m n τ) (hτ : τ k = some (t, opT x κ)) (hk : x.kind < 5) (hn : 0 ≤ n ∧ n ≤ 2000000) :
    Calls Tryz.prog 37 #[pV t, .int .i64 0] w fun e w' => e = .returned (.bool true) ∧ Wld n0 X w' C S (operS m x).1 (n + countS m x) (upd τ k (some (t, κ (operS m x).2.1))) ∧ Keep (fun b => n0 ≤ b ∧ ¬ X b) w w' := by
  obtain ⟨a1, a2, a3, lab, a4⟩ := h
  obtain ⟨Q, g1, g2⟩ := a4 k t _ hτ
  have hC := a1.own.lt
  have hS := a1.row.lt
  refine (tstepT_op C 0 S t Q x κ m n w g1 a1 hk (fun b hb => ⟨(g2 b hb).2.2.1, (g2 b hb).2.2.2.1⟩) hn).mono ?_
  rintro e w' ⟨rfl, ⟨Q', q1, q2⟩, q3, q4⟩
  have hs := q4.size
  have ht := g2 t g1.own
  have hfX : ∀ b, (b = t ∨ ofCells C S b) → n0 ≤ b ∧ ¬ X b := fun b hb => by
    rcases hb with rfl | rfl | rfl
    · exact ⟨ht.1, ht.2.1⟩
    · exact ⟨a2.1, fun hx => (a3 _ hx).1 rfl⟩
    · exact ⟨a2.2.1, fun hx => (a3 _ hx).2.1 rfl⟩
  refine ⟨rfl, ⟨q3, ⟨a2.1, a2.2.1, by omega⟩, fun b hb => ⟨(a3 b hb).1, (a3 b hb).2.1, by have := (a3 b hb).2.2; omega⟩, fun b => if b < w.heap.size then lab b else k, fun j t' T' e => ?_⟩, q4.mono (fun b _ hb => hfX b hb)⟩
  unfold upd at e
  split at e
  · next hj =>
    simp only [Option.some.injEq, Prod.mk.injEq] at e
    obtain ⟨rfl, rfl⟩ := e
    refine ⟨Q', q1, fun b hb => ?_⟩
    by_cases hlt : b < w.heap.size
    · rcases q2 b hb with hb | hb
      · obtain ⟨e1, e2, e3, e4, e5⟩ := g2 b hb
        exact ⟨e1, e2, e3, e4, (if_pos hlt).trans (e5.trans hj.symm)⟩
      · omega
    · exact ⟨by omega, fun hx => by have := (a3 b hx).2.2; omega, by omega, by omega, (if_neg hlt).trans hj.symm⟩
  · next hj =>
    obtain ⟨Q2, r1, r2⟩ := a4 j t' T' e
    refine ⟨Q2, r1.keep q4 (fun b hb hf => ?_), fun b hb => ?_⟩
    · obtain ⟨e1, e2, e3, e4, e5⟩ := r2 b hb
      rcases hf with rfl | rfl | rfl
      · exact hj (e5.symm.trans ht.2.2.2.2)
      · exact e3 rfl
      · exact e4 rfl
    · have := r1.lt b hb
      obtain ⟨e1, e2, e3, e4, e5⟩ := r2 b hb
      exact ⟨e1, e2, e3, e4, (if_pos this).trans e5⟩
theorem wdone_ret {n0 : Nat} {X : Nat → Prop} {w : World} {C S t : Nat} {m : List Int} {n v : Int} {τ : Nat → Option (Nat × Tre Itm)} (k : Nat) (h : Wld n0 X w C S m n τ) (hτ : τ k = some (t, retT v)) : Calls Tryz.prog 38 #[pV t] w fun e w' => e = .returned (.bool true) ∧ w = w' := by
  obtain ⟨a1, a2, a3, lab, a4⟩ := h
  obtain ⟨Q, g1, g2⟩ := a4 k t _ hτ
  exact tdoneT_ret t Q v w g1
theorem wdone_op {n0 : Nat} {X : Nat → Prop} {w : World} {C S t : Nat} {m : List Int} {n : Int} {τ : Nat → Option (Nat × Tre Itm)} {x : Itm} {κ : Int → Tre Itm} (k : Nat) (h : Wld n0 X w C S m n τ) (hτ : τ k = some (t, opT x κ)) : Calls Tryz.prog 38 #[pV t] w fun e w' => e = .returned (.bool false) ∧ w = w' := by
  obtain ⟨a1, a2, a3, lab, a4⟩ := h
  obtain ⟨Q, g1, g2⟩ := a4 k t _ hτ
  exact tdoneT_op t Q x κ w g1
theorem wvalue_ret {n0 : Nat} {X : Nat → Prop} {w : World} {C S t : Nat} {m : List Int} {n v : Int} {τ : Nat → Option (Nat × Tre Itm)} (k : Nat) (h : Wld n0 X w C S m n τ) (hτ : τ k = some (t, retT v)) : Calls Tryz.prog 27 #[pV t] w fun e w' => e = .returned (.int .i64 v) ∧ w = w' := by
  obtain ⟨a1, a2, a3, lab, a4⟩ := h
  obtain ⟨Q, g1, g2⟩ := a4 k t _ hτ
  exact tvalueT_ret t Q v w g1
theorem wstep_ret {n0 : Nat} {X : Nat → Prop} {w : World} {C S t : Nat} {m : List Int} {n v : Int} {τ : Nat → Option (Nat × Tre Itm)} (k : Nat) (h : Wld n0 X w C S m n τ) (hτ : τ k = some (t, retT v)) : Calls Tryz.prog 37 #[pV t, .int .i64 0] w fun e w' => e = .returned (.bool false) ∧ w = w' := by
  obtain ⟨a1, a2, a3, lab, a4⟩ := h
  obtain ⟨Q, g1, g2⟩ := a4 k t _ hτ
  exact tstepT_ret t Q v 0 w g1
/-- the law's own calls on the cells -/
theorem Wld.cell {n0 : Nat} {X : Nat → Prop} {w w' : World} {C S : Nat} {m m' : List Int} {n n' : Int} {τ : Nat → Option (Nat × Tre Itm)} (h : Wld n0 X w C S m n τ) (hk : Keep (ofCells C S) w w') (hC : CellsAt w' C S m' n') : Wld n0 X w' C S m' n' τ ∧ Keep (fun b => n0 ≤ b ∧ ¬ X b) w w' := by
  obtain ⟨a1, a2, a3, lab, a4⟩ := h
  have hs := hk.size
  refine ⟨⟨hC, ⟨a2.1, a2.2.1, by omega⟩, fun b hb => ⟨(a3 b hb).1, (a3 b hb).2.1, by have := (a3 b hb).2.2; omega⟩, lab, fun j t' T' e => ?_⟩, hk.mono (fun b _ hb => ?_)⟩
  · obtain ⟨Q2, r1, r2⟩ := a4 j t' T' e
    refine ⟨Q2, r1.keep hk (fun b hb hf => ?_), r2⟩
    obtain ⟨e1, e2, e3, e4, e5⟩ := r2 b hb
    rcases hf with rfl | rfl
    · exact e3 rfl
    · exact e4 rfl
  · rcases hb with rfl | rfl
    · exact ⟨a2.1, fun hx => (a3 _ hx).1 rfl⟩
    · exact ⟨a2.2.1, fun hx => (a3 _ hx).2.1 rfl⟩
theorem wload {a : Int} {n0 : Nat} {X : Nat → Prop} {w : World} {C S : Nat} {m : List Int} {n : Int} {τ : Nat → Option (Nat × Tre Itm)} (i : Nat) (ha : a = i) (c : Int) (h : Wld n0 X w C S m n τ) (hi : m[i]? = some c) (hn : 0 ≤ n ∧ n ≤ 2000000) :
    Calls Tryz.prog 86 #[cellsV C, .int .i64 a] w fun e w' => e = .returned (.int .u64 c) ∧ Wld n0 X w' C S m (n + 1) τ ∧ Keep (fun b => n0 ≤ b ∧ ¬ X b) w w' := by
  subst ha
  refine (load_yes C S m n i c w h.cells hi hn.1 (by omega)).mono ?_
  rintro e w' ⟨rfl, h1, h2⟩
  exact ⟨rfl, h.cell h2 h1⟩
theorem wstore {a : Int} {n0 : Nat} {X : Nat → Prop} {w : World} {C S : Nat} {m : List Int} {n : Int} {τ : Nat → Option (Nat × Tre Itm)} (i : Nat) (ha : a = i) (c u : Int) (h : Wld n0 X w C S m n τ) (hi : m[i]? = some c) (hn : 0 ≤ n ∧ n ≤ 2000000) :
    Calls Tryz.prog 59 #[cellsV C, .int .i64 a, .int .u64 u] w fun e w' => e = .returned (.bool true) ∧ Wld n0 X w' C S (m.set i u) (n + 1) τ ∧ Keep (fun b => n0 ≤ b ∧ ¬ X b) w w' := by
  subst ha
  refine (store_yes C S m n i c u w h.cells hi hn.1 (by omega)).mono ?_
  rintro e w' ⟨rfl, h1, h2⟩
  exact ⟨rfl, h.cell h2 h1⟩
theorem wsteps {n0 : Nat} {X : Nat → Prop} {w : World} {C S : Nat} {m : List Int} {n : Int} {τ : Nat → Option (Nat × Tre Itm)} (h : Wld n0 X w C S m n τ) :
    Calls Tryz.prog 18 #[cellsV C] w fun e w' => e = .returned (.int .i64 n) ∧ w = w' := steps_any C S m n w h.cells
theorem wall {n0 : Nat} {X : Nat → Prop} {w : World} {C S : Nat} {m : List Int} {n : Int} {τ : Nat → Option (Nat × Tre Itm)} (h : Wld n0 X w C S m n τ) (hm : m ≠ []) :
    Calls Tryz.prog 17 #[cellsV C] w fun e w' => ∃ g cap, e = .returned (.slice (some ⟨g, 0, none⟩) m.length cap) ∧ (∀ (i : Nat) c, m[i]? = some c → w'.cell? ⟨g, i, none⟩ = some (.int .u64 c)) ∧ w.heap.size ≤ g ∧ Below w.heap.size w w' := by
  refine (all_any C S m n w h.cells).mono ?_
  rintro e w' ⟨u, rfl, hb, hrow⟩
  rcases id hrow.2 with ⟨rfl, h0⟩ | ⟨g, cap, cur, rfl, h1, _⟩
  · exfalso
    have : m.length = 0 := by simpa using h0
    exact hm (List.length_eq_zero_iff.1 this)
  · refine ⟨g, cap, rfl, fun i c hc => ?_, h1, hb⟩
    have := hrow.cells (g := g) rfl i (.int .u64 c) (by rw [List.getElem?_map, hc]; rfl)
    rw [addr_add, Nat.zero_add] at this
    exact this
end Go.Proofs.YtldofbkjjmnooaaGreat
