/- Package pool: the pool as a list, in the values of cells. No program is walked here. -/
import Derived.Test.YtldofbkjjmnooaaGreatMgGSlM
import Derived.Test.YtldofbkjjmnooaaGreatMgGSlN
import Derived.Test.YtldofbkjjmnooaaGreatMgGSlI
import Derived.Test.YtldofbkjjmnooaaGreatMgGSlK
namespace Go.Proofs.YtldofbkjjmnooaaGreat
set_option linter.unusedVariables false
set_option linter.unusedSimpArgs false
/-- the numbers below n, in rising order -/
def upL (n : Nat) : List Int := (List.range n).map fun k : Nat => (k : Int)
theorem upL_len (n : Nat) : (upL n).length = n := by simp [upL]
theorem upL_at {n k : Nat} (h : k < n) : (upL n)[k]? = some (k : Int) := by simp [upL, h]
theorem upL_mem {n : Nat} {x : Int} : x ∈ upL n ↔ 0 ≤ x ∧ x < n := by
  unfold upL
  rw [List.mem_map]
  constructor
  · rintro ⟨k, hk, rfl⟩
    have := List.mem_range.1 hk
    omega
  · intro h
    exact ⟨x.toNat, List.mem_range.2 (by omega), by omega⟩
theorem upL_nodup (n : Nat) : (upL n).Nodup := by
  unfold upL
  rw [List.nodup_iff_pairwise_ne, List.pairwise_map]
  have := List.nodup_range (n := n)
  rw [List.nodup_iff_pairwise_ne] at this
  exact this.imp fun h e => h (by omega)
theorem upL_drop {n k : Nat} : headOf ((upL n).drop k) = if k < n then (k : Int) + 1 else 0 := by
  by_cases h : k < n
  · have hl : k < (upL n).length := by rw [upL_len]; exact h
    rw [List.drop_eq_getElem_cons hl, if_pos h]
    have := upL_at h
    rw [List.getElem?_eq_getElem hl] at this
    simp [headOf, Option.some.inj this]
  · rw [List.drop_eq_nil_of_le (by rw [upL_len]; omega), if_neg h]
    rfl
/-- the pool, in the cells -/
structure PIs (m : Mp) (mm : List Int) (L : List Int) : Prop where
  len : sizeN m ≤ mm.length
  head : mm[1]? = some (headOf L)
  next : ∀ (k : Nat) x, L[k]? = some x → mm[linkN m x]? = some (headOf (L.drop (k + 1)))
  nodup : L.Nodup
  low : ∀ x ∈ L, 0 ≤ x ∧ x < (m.n : Int)
theorem PIs.congr {m : Mp} {mm mm' L : List Int} (h : PIs m mm L) (hl : mm'.length = mm.length) (h1 : mm'[1]? = mm[1]?) (h2 : ∀ x ∈ L, mm'[linkN m x]? = mm[linkN m x]?) : PIs m mm' L :=
  ⟨by rw [hl]; exact h.len, h1.trans h.head, fun k x hx => (h2 x (List.mem_of_getElem? hx)).trans (h.next k x hx), h.nodup, h.low⟩
/-- a cell that is none of the pool's -/
theorem PIs.set {m : Mp} {mm L : List Int} (h : PIs m mm L) (i : Nat) (v : Int) (h1 : i ≠ 1) (h2 : ∀ x ∈ L, i ≠ linkN m x) : PIs m (mm.set i v) L :=
  h.congr (by simp) (by rw [List.getElem?_set_ne h1]) (fun x hx => by rw [List.getElem?_set_ne (h2 x hx)])
theorem PIs.pop {m : Mp} {mm r : List Int} {x : Int} (h : PIs m mm (x :: r)) : PIs m (mm.set 1 (headOf r)) r := by
  have hl := h.len
  have hs : 1 < mm.length := by unfold sizeN at hl; omega
  refine ⟨by simpa using hl, by rw [List.getElem?_set_self hs], fun k y hy => ?_, (List.nodup_cons.1 h.nodup).2, fun y hy => h.low y (List.mem_cons_of_mem _ hy)⟩
  have h9 := linkN_two (m := m) (k := y)
  rw [List.getElem?_set_ne (by omega)]
  exact h.next (k + 1) y (by simpa using hy)
theorem PIs.push {m : Mp} {mm L : List Int} {x : Int} (h : PIs m mm L) (hx : 0 ≤ x ∧ x < (m.n : Int)) (hn : x ∉ L) (hk : mm[linkN m x]? = some (headOf L)) : PIs m (mm.set 1 (x + 1)) (x :: L) := by
  have hl := h.len
  have hs : 1 < mm.length := by unfold sizeN at hl; omega
  refine ⟨by simpa using hl, by rw [List.getElem?_set_self hs]; rfl, fun k y hy => ?_, List.nodup_cons.2 ⟨hn, h.nodup⟩, fun y hy => ?_⟩
  · have h9 := linkN_two (m := m) (k := y)
    rw [List.getElem?_set_ne (by omega)]
    cases k with
    | zero =>
      simp at hy
      subst hy
      simpa using hk
    | succ k => simpa using h.next k y (by simpa using hy)
  · rcases List.mem_cons.1 hy with rfl | hy
    · exact hx
    · exact h.low y hy
theorem PIs.headr {m : Mp} {mm L : List Int} (h : PIs m mm L) : 0 ≤ headOf L ∧ headOf L ≤ m.n := by
  cases L with
  | nil => simp [headOf]
  | cons x r => have := h.low x (by simp); simp [headOf]; omega
theorem PIs.tailr {m : Mp} {mm r : List Int} {x : Int} (h : PIs m mm (x :: r)) : 0 ≤ headOf r ∧ headOf r ≤ m.n := by
  cases r with
  | nil => simp [headOf]
  | cons y r => have := h.low y (by simp); simp [headOf]; omega
/- what Lay does -/
theorem bhN_up (n k : Nat) (h : k < n) : bhN n (n - 1 - k) = headOf ((upL n).drop (k + 1)) := by
  rw [upL_drop]
  unfold bhN
  by_cases e : k + 1 < n
  · rw [if_pos e, if_neg (by omega)]
    omega
  · rw [if_neg e, if_pos (by omega)]
theorem layL_pis (m : Mp) (mm : List Int) (hs : sizeN m ≤ mm.length) : PIs m (layL m mm) (upL m.n) := by
  refine ⟨by rw [layL_len]; exact hs, ?_, fun k x hx => ?_, upL_nodup _, fun x hx => ?_⟩
  · unfold layL
    rw [List.getElem?_set_self (by rw [layGo_len]; unfold sizeN at hs; omega)]
    have := upL_drop (n := m.n) (k := 0)
    rw [List.drop_zero] at this
    rw [this]
    unfold bhN
    by_cases h : m.n = 0
    · simp [h]
    · rw [if_neg h, if_pos (by omega)]
      simp
  · have hk : k < m.n := by
      have := (List.getElem?_eq_some_iff.1 hx).1
      rwa [upL_len] at this
    rw [upL_at hk] at hx
    obtain rfl := Option.some.inj hx
    unfold layL
    rw [List.getElem?_set_ne (by have := linkN_two (m := m) (k := (k : Int)); omega), layGo_link m mm hs k hk m.n (Nat.le_refl _) (by omega), bhN_up _ _ hk]
  · exact upL_mem.1 hx
theorem layL_gen (m : Mp) (mm : List Int) (k : Int) (h : 0 ≤ k) : (layL m mm)[genN m k]? = mm[genN m k]? := by
  unfold layL
  rw [List.getElem?_set_ne (by have := genN_two (m := m) (k := k); omega)]
  exact layGo_other m mm _ (fun j h1 h2 e => linkN_gen h1 h e.symm) _ (Nat.le_refl _)
theorem layL_latch (m : Mp) (mm : List Int) : (layL m mm)[0]? = mm[0]? := by
  unfold layL
  rw [List.getElem?_set_ne (by omega)]
  exact layGo_other m mm _ (fun j h1 h2 e => by have := linkN_two (m := m) (k := j); omega) _ (Nat.le_refl _)
/- the trees, step by step -/
def tk3 (t x u : Int) : Tre Itm := opT (storeN 1 u) fun _ => outT 0 t x
def tk2 (m : Mp) (t x : Int) : Tre Itm := opT (loadI (linkN m x)) fun u => tk3 t x (IntKind.u64.wrap u)
def tk1 (m : Mp) (t : Int) : Tre Itm := opT (loadI 1) fun v => if pmS m (IntKind.u64.wrap v) = -1 then outT 0 t (-1) else tk2 m t (pmS m (IntKind.u64.wrap v))
def bk4 (t n : Int) : Tre Itm := opT (storeN 1 (n + 1)) fun _ => outT 0 t 1
def bk3 (m : Mp) (t n u : Int) : Tre Itm := opT (storeN (linkN m n) u) fun _ => bk4 t n
def bk2 (m : Mp) (t n : Int) : Tre Itm := opT (loadI 1) fun u => bk3 m t n (IntKind.u64.wrap u)
def bk1 (m : Mp) (t n : Int) : Tre Itm := opT (loadI (genN m n)) fun v => if 4095 ≤ IntKind.u64.wrap v then outT 0 t 0 else bk2 m t n
theorem seq2_ret (T : Tre Itm) (n : Int) : seqT [T, retT n] = bindT (fun _ => retT n) T := by
  show bindT (fun _ => bindT retT (retT n)) T = _
  congr 1
  funext u
  rw [bindT_ret]
theorem seq3_ret (T U : Tre Itm) (n : Int) : seqT [T, U, retT n] = bindT (fun _ => bindT (fun _ => retT n) U) T := by
  show bindT (fun _ => seqT [U, retT n]) T = _
  congr 1
  funext u
  exact seq2_ret U n
theorem mv_bind (a b : Nat) (k : Int → Tre Itm) : bindT k (mvT a b) = opT (loadI a) fun u => opT (storeN b (IntKind.u64.wrap u)) k := by
  unfold mvT
  rw [bindT_op]
  congr 1
  funext u
  unfold putT
  rw [bindT_op]
  congr 1
  funext q
  rw [bindT_ret]
theorem take_in (m : Mp) (t : Int) : bindT (fun v => outT 0 t v) (takeB m) = tk1 m t := by
  unfold takeB tk1
  rw [bindT_op]
  congr 1
  funext v
  unfold takeK
  split
  · rw [bindT_ret]
  · rw [seq2_ret, mv_bind, bindT_op]
    unfold tk2 tk3
    congr 1
    funext u
    rw [bindT_op]
    congr 1
    funext q
    rw [bindT_ret]
theorem back_in (m : Mp) (t n : Int) : bindT (fun v => outT 0 t v) (backB m n) = bk1 m t n := by
  unfold backB bk1
  rw [bindT_op]
  congr 1
  funext v
  unfold backK
  split
  · rw [bindT_ret]
  · rw [seq3_ret, mv_bind, bindT_op]
    unfold bk2 bk3 bk4
    congr 1
    funext u
    rw [bindT_op]
    congr 1
    funext q
    unfold putT
    rw [bindT_op, bindT_op]
    congr 1
    funext z
    rw [bindT_ret, bindT_ret]
theorem takeT_eq (m : Mp) (t : Int) : takeT m t = opT (takeI 0 t) (fun v => if v = 0 ∨ v = -2147483648 then takeT m t else tk1 m t) := by
  show guardT 0 t (takeB m) = opT (takeI 0 t) (fun v => if v = 0 ∨ v = -2147483648 then guardT 0 t (takeB m) else tk1 m t)
  conv => lhs; rw [guardT_eq, take_in]
theorem backT_eq (m : Mp) (t n : Int) : backT m t n = opT (takeI 0 t) (fun v => if v = 0 ∨ v = -2147483648 then backT m t n else bk1 m t n) := by
  show guardT 0 t (backB m n) = opT (takeI 0 t) (fun v => if v = 0 ∨ v = -2147483648 then guardT 0 t (backB m n) else bk1 m t n)
  conv => lhs; rw [guardT_eq, back_in]
/- what operations do -/
theorem oTake {mm : List Int} {t : Int} (h : mm[0]? = some 0) (ht : 0 ≤ t ∧ t ≤ 100000) : operS mm (takeI 0 t) = (mm.set 0 (t + 1), 1, true) ∧ countS mm (takeI 0 t) = 1 := ⟨by rw [oper_take h ht]; rfl, count_in h⟩
theorem oTakeNo {mm : List Int} {t c : Int} (h : mm[0]? = some c) (hc : c ≠ 0) (ht : 0 ≤ t ∧ t ≤ 100000) : operS mm (takeI 0 t) = (mm, 0, false) ∧ countS mm (takeI 0 t) = 1 := ⟨by rw [oper_take h ht, if_neg hc], count_in h⟩
theorem oDrop {mm : List Int} {t : Int} (h : mm[0]? = some (t + 1)) (ht : 0 ≤ t ∧ t ≤ 100000) : operS mm (dropI 0 t) = (mm.set 0 0, 1, true) ∧ countS mm (dropI 0 t) = 1 := ⟨by rw [oper_drop h ht]; simp, count_in h⟩
theorem oLoad {mm : List Int} {i : Nat} {c : Int} (h : mm[i]? = some c) (hc : 0 ≤ c ∧ c ≤ 1000000000000) : operS mm (loadI i) = (mm, c, true) ∧ countS mm (loadI i) = 1 := ⟨oper_load h hc, count_in h⟩
theorem oStore {mm : List Int} {i : Nat} {c v : Int} (h : mm[i]? = some c) : operS mm (storeN i v) = (mm.set i v, 1, true) ∧ countS mm (storeN i v) = 1 := ⟨by simp [operS, h], count_in h⟩
theorem wrap_small {v : Int} (h : 0 ≤ v ∧ v ≤ 1000000000000) : IntKind.u64.wrap v = v := by rw [IntKind.wrap_u64]; omega
end Go.Proofs.YtldofbkjjmnooaaGreat
/- Package pool: Lay; layer 11's laws: laid, all. -/
namespace Go.Proofs.YtldofbkjjmnooaaGreat
open Go.ChangeShapes Go.WideShapes Go.ChangeAt Go.RowKit
set_option linter.unusedVariables false
set_option maxRecDepth 100000
set_option linter.unusedSimpArgs false
theorem lay_no (cv : Value) (m : Mp) (n : Nat) (w : World) (hm : m.ok) (hL : ∀ W, Below w.heap.size w W → Calls Tryz.prog 101 #[cv] W fun e w' => e = .returned (.int .i64 (n : Int)) ∧ Below W.heap.size W w') (hn : ¬ sizeN m ≤ n) :
    Calls Tryz.prog 32 #[cv, mapV m] w fun e w' => e = .returned (.bool false) ∧ Below w.heap.size w w' := by
  have HR := Lib.hid fun V => pright_yes m (n : Int) V hm
  rw [show decide ((sizeN m : Int) ≤ (n : Int)) = false by simp; omega] at HR
  have HL := Lib.hid hL
  clear hm hn hL
  go_enter Tryz.func32, Tryz.ntmps32
  go_upto_region 1 with fail
  generalize hW : (w.alloc _) = W
  have bW : Below w.heap.size w W := by rw [← hW]; go_grown
  have m0 : Blk W w.heap.size 24 (mapCs m) := by rw [← hW]; exact Blk.new w _ _
  clear hW
  have hml := m0.lt
  have SK := Lib.hid (show ∀ V, Below W.heap.size W V → V.cell? ⟨w.heap.size, 0, none⟩ = some (.int .i64 (m.t : Int)) ∧ V.cell? ⟨w.heap.size, 1, none⟩ = some (.int .i64 (m.o : Int)) ∧ V.cell? ⟨w.heap.size, 2, none⟩ = some (.int .i64 (m.n : Int)) from fun V hk => map3 (m0.below hk hml))
  have bd := bdrewP W
  have HL1 := Lib.hid (HL.out W.drew (bW.trans (bd.mono bW.size)))
  clear m0 HL
  go_region_held3 (fun V => V.cell? ⟨w.heap.size, 0, none⟩ = some (.int .i64 (m.t : Int)) ∧ V.cell? ⟨w.heap.size, 1, none⟩ = some (.int .i64 (m.o : Int)) ∧ V.cell? ⟨w.heap.size, 2, none⟩ = some (.int .i64 (m.n : Int))) (first | exact SK.out _ b3 | exact SK.out _ b2 | exact SK.out _ bd) (first
    | (go_at_call 101; refine HL1.out.mono ?_; rintro e w2 ⟨rfl, hb2⟩; have b2 : Below W.heap.size W w2 := bd.trans hb2)
    | (go_at_call 113; refine (HR.out _).mono ?_; rintro e w3 ⟨rfl, hb3⟩; have b3 : Below W.heap.size W w3 := b2.trans (hb3.mono b2.size)))
  all_goals go_wp2
  all_goals go_ret
  all_goals exact ⟨rfl, bW.trans (b3.mono bW.size)⟩
theorem lay_bad (cv : Value) (t o k : Int) (n : Nat) (w : World) (hr : rightS t o k = false) (hL : ∀ W, Below w.heap.size w W → Calls Tryz.prog 101 #[cv] W fun e w' => e = .returned (.int .i64 (n : Int)) ∧ Below W.heap.size W w') :
    Calls Tryz.prog 32 #[cv, .agg #[.int .i64 t, .int .i64 o, .int .i64 k]] w fun e w' => e = .returned (.bool false) ∧ Below w.heap.size w w' := by
  have HR := Lib.hid fun V => pright_no (n : Int) t o k V hr
  have HL := Lib.hid hL
  clear hr hL
  go_enter Tryz.func32, Tryz.ntmps32
  go_upto_region 1 with fail
  generalize hW : (w.alloc _) = W
  have bW : Below w.heap.size w W := by rw [← hW]; go_grown
  have m0 : Blk W w.heap.size 24 #[.int .i64 t, .int .i64 o, .int .i64 k] := by rw [← hW]; exact Blk.new w _ _
  clear hW
  have hml := m0.lt
  have SK := Lib.hid (show ∀ V, Below W.heap.size W V → V.cell? ⟨w.heap.size, 0, none⟩ = some (.int .i64 t) ∧ V.cell? ⟨w.heap.size, 1, none⟩ = some (.int .i64 o) ∧ V.cell? ⟨w.heap.size, 2, none⟩ = some (.int .i64 k) from fun V hk => ⟨(m0.below hk hml).cell 0 _ rfl, (m0.below hk hml).cell 1 _ rfl, (m0.below hk hml).cell 2 _ rfl⟩)
  have bd := bdrewP W
  have HL1 := Lib.hid (HL.out W.drew (bW.trans (bd.mono bW.size)))
  clear m0 HL
  go_region_held3 (fun V => V.cell? ⟨w.heap.size, 0, none⟩ = some (.int .i64 t) ∧ V.cell? ⟨w.heap.size, 1, none⟩ = some (.int .i64 o) ∧ V.cell? ⟨w.heap.size, 2, none⟩ = some (.int .i64 k)) (first | exact SK.out _ b3 | exact SK.out _ b2 | exact SK.out _ bd) (first
    | (go_at_call 101; refine HL1.out.mono ?_; rintro e w2 ⟨rfl, hb2⟩; have b2 : Below W.heap.size W w2 := bd.trans hb2)
    | (go_at_call 113; refine (HR.out _).mono ?_; rintro e w3 ⟨rfl, hb3⟩; have b3 : Below W.heap.size W w3 := b2.trans (hb3.mono b2.size)))
  all_goals go_wp2
  all_goals go_ret
  all_goals exact ⟨rfl, bW.trans (b3.mono bW.size)⟩
abbrev lawM (n : Nat) : Mp := ⟨3, 2, n⟩
abbrev lawV (n : Nat) : Value := .agg #[.int .i64 3, .int .i64 2, .int .i64 (n : Int)]
theorem lawV_eq (n : Nat) : mapV (lawM n) = lawV n := rfl
theorem lawM_ok {n : Nat} (h : n ≤ 4096) : (lawM n).ok := ⟨by show 1 ≤ 3 ∧ 3 ≤ 32766; omega, by show 1 ≤ 2 ∧ 2 ≤ 65536; omega, h⟩
set_option maxHeartbeats 2000000 in
theorem laid_any (n : Nat) (w : World) (hn : n ≤ 4096) {nI : Int} (hI : nI = n) :
    Calls Tryz.prog 109 #[.int .i64 nI] w fun e w' => ∃ C S, e = .returned (.tuple #[cellsV C, mapV (lawM n)]) ∧ CellsAt w' C S (layL (lawM n) (List.replicate (sizeN (lawM n)) 0)) (n + 1) ∧ Below w.heap.size w w' ∧ w.heap.size ≤ C ∧ w.heap.size ≤ S := by
  subst hI
  have HSz := Lib.hid fun V => size_any (lawM n) V (lawM_ok hn)
  have HN := Lib.hid fun V => new_some (sizeN (lawM n)) V (by unfold sizeN; show 2 + 2 + 6 * 3 + 8 * n ≤ 16777216; omega)
  have HL := Lib.hid fun V C S (hC : CellsAt V C S (List.replicate (sizeN (lawM n)) 0) 0) => lay_any C S (lawM n) (List.replicate (sizeN (lawM n)) 0) 0 V (lawM_ok hn) hC (by simp) (by omega)
  rw [lawV_eq] at HL HSz
  rw [lawV_eq]
  clear hn
  go_enter Tryz.func109, Tryz.ntmps109
  go_upto_region 2 with fail
  generalize hW : ((w.alloc _).alloc _) = W
  have bW : Below w.heap.size w W := by rw [← hW]; go_grown
  have sW : W.heap.size = w.heap.size + 2 := by rw [← hW]; simp
  have q0 : Blk W w.heap.size 24 #[.int .i64 0, .int .i64 0, .int .i64 0] := by rw [← hW]; exact (Blk.new w _ _).alloc _
  have q1 : Blk W (w.heap.size + 1) 24 #[.int .i64 3, .int .i64 2, .int .i64 (n : Int)] := by rw [← hW]; exact blk_two w _ _ _
  clear hW
  have d0 := q1.cell 0 _ rfl
  have d1 := q1.cell 1 _ rfl
  have d2 := q1.cell 2 _ rfl
  go_upto_region 3 with (first
    | (go_at_call 14; (with_reducible refine (HSz.out _).mono ?_); rintro e w2 ⟨rfl, b2⟩)
    | (go_at_call 13; (with_reducible refine (HN.out _).mono ?_); rintro e w3 ⟨rfl, hC, b3⟩; have HL2 := Lib.hid (HL.out _ _ _ hC)))
  have b23 : Below W.heap.size W w3 := b2.trans (b3.mono b2.size)
  have p0 := q0.below b23 q0.lt
  have p1 := q1.below b23 q1.lt
  have hC1 : w.heap.size + 2 ≤ w2.heap.size + 1 := by have := b2.size; omega
  have hS1 : w.heap.size + 2 ≤ w2.heap.size := by have := b2.size; omega
  have bw3 : Below w.heap.size w w3 := bW.trans (b23.mono bW.size)
  generalize w2.heap.size + 1 = C at *
  generalize w2.heap.size = S at *
  clear q0 q1 hC b2 b3 b23 d0 d1 d2
  have d0 := p1.cell 0 _ rfl
  have d1 := p1.cell 1 _ rfl
  have d2 := p1.cell 2 _ rfl
  have nC : ¬ ofCells C S (w.heap.size + 1) := fun h => by rcases h with h | h <;> omega
  have nC0 : ¬ ofCells C S w.heap.size := fun h => by rcases h with h | h <;> omega
  go_upto_region 5 with (go_at_call 32; (with_reducible refine HL2.out.mono ?_); rintro e w4 ⟨rfl, h4, k4⟩)
  have r0 := p0.keep k4 nC0
  have r1 := p1.keep k4 nC
  clear d0 d1 d2 p0 p1
  have d0 := r1.cell 0 _ rfl
  have d1 := r1.cell 1 _ rfl
  have d2 := r1.cell 2 _ rfl
  have e0 := r0.cell 0 _ rfl
  have e1 := r0.cell 1 _ rfl
  have e2 := r0.cell 2 _ rfl
  have z0 := r0.free 0
  have z1 := r0.free 1
  have z2 := r0.free 2
  go_region
  have s0 := ((r0.set 0 (.int .i64 3)).set 1 (.int .i64 2)).set 2 (.int .i64 (n : Int))
  have k0 : Keep (fun b => b = w.heap.size) w4 (((w4.setCell ⟨w.heap.size, 0, none⟩ (.int .i64 3)).setCell ⟨w.heap.size, 1, none⟩ (.int .i64 2)).setCell ⟨w.heap.size, 2, none⟩ (.int .i64 (n : Int))) := (((Keep.refl (fun b => b = w.heap.size) w4).set (p := ⟨w.heap.size, 0, none⟩) (fun _ => rfl) _).set (p := ⟨w.heap.size, 1, none⟩) (fun _ => rfl) _).set (p := ⟨w.heap.size, 2, none⟩) (fun _ => rfl) _
  clear d0 d1 d2 e0 e1 e2 z0 z1 z2
  generalize ((w4.setCell ⟨w.heap.size, 0, none⟩ (.int .i64 3)).setCell ⟨w.heap.size, 1, none⟩ (.int .i64 2)).setCell ⟨w.heap.size, 2, none⟩ (.int .i64 (n : Int)) = w5 at *
  have bd := bdrewP w5
  have s1 := s0.below bd s0.lt
  have f0 : w5.drew.cell? ⟨w.heap.size, 0, none⟩ = some (.int .i64 3) := s1.cell 0 _ rfl
  have f1 : w5.drew.cell? ⟨w.heap.size, 1, none⟩ = some (.int .i64 2) := s1.cell 1 _ rfl
  have f2 : w5.drew.cell? ⟨w.heap.size, 2, none⟩ = some (.int .i64 (n : Int)) := s1.cell 2 _ rfl
  have kb := k0.trans (Keep.ofBelow (Q := fun b => b = w.heap.size) bd)
  have h5 := h4.keep kb (by omega) (by omega)
  have hw5 : Below w.heap.size w w5.drew := (bw3.trans (k4.below bw3.size (fun i _ h => by rcases h with h | h <;> omega))).trans (kb.below (by have := bw3.size; have := k4.size; omega) (fun i _ h => by omega))
  generalize w5.drew = w6 at *
  go_wp2
  exact bodyPost_ret (v := .tuple #[cellsV C, lawV n]) (by simp [results, Tryz.results109, go_sem, f0, f1, f2]) rfl ⟨C, S, rfl, by rw [← Int.zero_add (n : Int)]; exact h5, hw5, by omega, by omega⟩
end Go.Proofs.YtldofbkjjmnooaaGreat
/- Layer 11's laws: all; Take and Back to their ends, alone. -/
namespace Go.Proofs.YtldofbkjjmnooaaGreat
open Go.ChangeShapes Go.WideShapes Go.ChangeAt Go.RowKit
set_option linter.unusedVariables false
set_option maxRecDepth 100000
set_option linter.unusedSimpArgs false
set_option maxHeartbeats 1000000 in
theorem pall_any (C P S t : Nat) (Q : Nat → Prop) (T : Tre Itm) (L most : Nat) (m m' : List Int) (v n : Int) (w : World) (hG : Goes m T L m' v) (hL : L ≤ most) (hm : most ≤ 1000)
    (h : TkT (cellOps C P) w t Q T) (hC : CellsAt w C S m n) (hQ : ∀ b, Q b → b ≠ C ∧ b ≠ S) (hn : 0 ≤ n ∧ n ≤ 1000000) {mI : Int} (hI : mI = most) :
    Calls Tryz.prog 111 #[pV t, .int .i64 mI] w fun e w' => e = .returned (.int .i64 v) ∧ CellsAt w' C S m' (n + L) ∧ Keep (fun b => Q b ∨ ofCells C S b) w w' := by
  subst hI
  have H := Lib.hid h
  have HG := Lib.hid hG
  have HC := Lib.hid hC
  have HQ := Lib.hid hQ
  have HL := Lib.hid hL
  have hCl := hC.own.lt
  have hSl := hC.row.lt
  clear h hG hC hQ hL
  go_enter Tryz.func111, Tryz.ntmps111
  go_wp2_with fail
  go_loopw [5] (fun v5 wr => ∃ (I : Nat) (m1 : List Int) (T1 : Tre Itm) (Q1 : Nat → Prop) (j : Nat), I + j = L ∧ v5 = .int .i64 (I : Int) ∧ Goes m1 T1 j m' v ∧ TkT (cellOps C P) wr t Q1 T1 ∧ (∀ b, Q1 b → Q b ∨ w.heap.size ≤ b) ∧ CellsAt wr C S m1 (n + I) ∧ Keep (fun b => Q b ∨ ofCells C S b) w wr)
    (fun v5 _ => L - (intOf v5).toNat)
  case atStart => exact ⟨0, m, T, Q, L, by omega, rfl, HG.out, H.out, fun _ h => .inl h, by simpa using HC.out, Keep.refl _ _⟩
  case round =>
    obtain ⟨I, m1, T1, Q1, j, hIj, rfl, hG, hT, hq, hC, hk⟩ := hrel
    have hLm := HL.out
    have hsz := hk.size
    have hQ1 : ∀ b, Q1 b → b ≠ C ∧ b ≠ S := fun b hb => by
      rcases hq b hb with h | h
      · exact HQ.out b h
      · omega
    rcases hG.cases' with ⟨rfl, rfl, rfl⟩ | ⟨x, κ, j, rfl, rfl, e1, e2, e3⟩
    · obtain rfl : I = L := by omega
      have hD := Lib.hid (tdoneT_ret t Q1 v wr hT)
      have hV := Lib.hid (tvalueT_ret t Q1 v wr hT)
      have HX := Lib.hid (And.intro hC hk)
      clear hG hT hq hC hk hQ1 H HG HC HQ HL
      have hor : (I : Int) < (most : Int) ∨ ¬ (I : Int) < (most : Int) := by omega
      rcases hor with h4 | h4
      all_goals
        go_wp2_with (first
          | (go_at_call 38; (with_reducible refine hD.out.mono ?_); rintro e w2 ⟨rfl, rfl⟩)
          | (go_at_call 27; (with_reducible refine hV.out.mono ?_); rintro e w2 ⟨rfl, rfl⟩))
        go_ret
        exact ⟨rfl, HX.out⟩
    · have hD := Lib.hid (tdoneT_op t Q1 x κ wr hT)
      have hS := Lib.hid (tstepT_op C P S t Q1 x κ m1 (n + I) wr hT hC e1 hQ1 ⟨by omega, by omega⟩)
      have hQt := hT.own
      have HX := Lib.hid (And.intro e2 (And.intro e3 (And.intro hq (And.intro hk (And.intro (hq t hQt) (And.intro hsz (HC.out.own.lt)))))))
      have ht : t < w.heap.size ∧ Q t := ⟨H.out.lt t H.out.own, H.out.own⟩
      have h5 : (I : Int) < (most : Int) := by omega
      clear hG hT hq hC hk hQ1 e1 e2 e3
      go_wp2_with (first
        | (go_at_call 38; (with_reducible refine hD.out.mono ?_); rintro e w2 ⟨rfl, rfl⟩)
        | (go_at_call 37; (with_reducible refine hS.out.mono ?_); rintro e w3 ⟨rfl, ⟨Q3, g1, g2⟩, g3, g4⟩))
      obtain ⟨e2, e3, hq, hk, _, _, _⟩ := HX.out
      rw [e2] at g3
      go_roundw
      case rel =>
        refine ⟨I + 1, _, _, Q3, j, by omega, by go_num, e3, g1, fun b hb => ?_, by rw [Int.natCast_add, ← Int.add_assoc]; exact g3, hk.trans (g4.mono fun b _ hb => ?_)⟩
        · rcases g2 b hb with h | h
          · exact hq b h
          · exact .inr (by omega)
        · rcases hb with rfl | hb
          · exact .inl ht.2
          · exact .inr hb
      case measure => simp [intOf]; omega
/-- cells hold words -/
def Rng (mm : List Int) : Prop := ∀ (i : Nat) c, mm[i]? = some c → 0 ≤ c ∧ c < 18446744073709551616
theorem Rng.set {mm : List Int} (h : Rng mm) (i : Nat) {v : Int} (hv : 0 ≤ v ∧ v < 18446744073709551616) : Rng (mm.set i v) := fun j c hc => by
  rw [List.getElem?_set] at hc
  split at hc
  · split at hc
    · obtain rfl := Option.some.inj hc
      exact hv
    · cases hc
  · exact h j c hc
/-- how Take goes, and Back, alone -/
theorem Goes.step {m m1 m' : List Int} {x : Itm} {κ : Int → Tre Itm} {T : Tre Itm} {u v : Int} {o : Bool} {k : Nat} (h1 : x.kind < 5) (h2 : operS m x = (m1, u, o) ∧ countS m x = 1) (hT : κ u = T) (h3 : Goes m1 T k m' v) : Goes m (opT x κ) (k + 1) m' v := by
  refine .op h1 h2.2 ?_
  rw [h2.1]
  simp only
  rw [hT]
  exact h3
/-- the pool, with its latch free -/
structure PFree (m : Mp) (mm : List Int) (L : List Int) : Prop where
  pool : PIs m mm L
  free : mm[0]? = some 0
def SameGen (m : Mp) (mm mm' : List Int) : Prop := mm'.length = mm.length ∧ ∀ k : Int, 0 ≤ k → mm'[genN m k]? = mm[genN m k]?
theorem PIs.latch {m : Mp} {mm L : List Int} (h : PIs m mm L) (v : Int) : PIs m (mm.set 0 v) L := h.set 0 v (by omega) (fun x _ e => by have := linkN_two (m := m) (k := x); omega)
theorem PIs.zero {m : Mp} {mm L : List Int} (h : PIs m mm L) : 0 < mm.length := by have := h.len; unfold sizeN at this; omega
theorem gen_ne {m : Mp} {k : Int} : genN m k ≠ 0 ∧ genN m k ≠ 1 := by have := genN_two (m := m) (k := k); omega
theorem goes_take {m : Mp} {mm r : List Int} {x t : Int} (hm : m.n ≤ 4096) (h : PFree m mm (x :: r)) (ht : 0 ≤ t ∧ t ≤ 100000) :
    ∃ mm', Goes mm (takeT m t) 5 mm' x ∧ PFree m mm' r ∧ SameGen m mm mm' ∧ (Rng mm → Rng mm') := by
  have hx := h.pool.low x (by simp)
  have hr := h.pool.tailr
  have p1 := h.pool.latch (t + 1)
  have h1 := p1.head
  have p2 := p1.pop
  have hz := p1.zero
  refine ⟨((mm.set 0 (t + 1)).set 1 (headOf r)).set 0 0, ?_, ⟨p2.latch 0, List.getElem?_set_self p2.zero⟩, ⟨by simp, fun k hk => ?_⟩, fun hr => ((hr.set 0 (by omega)).set 1 (by omega)).set 0 (by omega)⟩
  · rw [takeT_eq]
    refine Goes.step (show (4 : Nat) < 5 by omega) (oTake h.free ht) (if_neg (by decide)) ?_
    have e1 : IntKind.u64.wrap (headOf (x :: r)) = x + 1 := wrap_small (by simp [headOf]; omega)
    have e2 : pmS m (x + 1) = x := by rw [pmS_of (by omega)]; omega
    refine Goes.step (show (0 : Nat) < 5 by omega) (oLoad h1 (by simp [headOf]; omega)) ?_ (T := tk2 m t x) ?_
    · rw [e1, e2, if_neg (by omega)]
    refine Goes.step (show (0 : Nat) < 5 by omega) (oLoad (p1.next 0 x rfl) (by simpa using (show 0 ≤ headOf r ∧ headOf r ≤ 1000000000000 by omega))) (T := tk3 t x (headOf r)) ?_ ?_
    · exact congrArg (tk3 t x) (wrap_small (by show 0 ≤ headOf r ∧ headOf r ≤ 1000000000000; omega))
    refine Goes.step (show (1 : Nat) < 5 by omega) (oStore h1) rfl ?_
    refine Goes.step (show (2 : Nat) < 5 by omega) (oDrop (t := t) ?_ ht) rfl (.ret _ _)
    rw [List.getElem?_set_ne (by omega), List.getElem?_set_self (by simpa using hz)]
  · have hg := gen_ne (m := m) (k := k)
    rw [List.getElem?_set_ne (by omega), List.getElem?_set_ne (by omega), List.getElem?_set_ne (by omega)]
theorem goes_none {m : Mp} {mm : List Int} {t : Int} (h : PFree m mm []) (ht : 0 ≤ t ∧ t ≤ 100000) :
    ∃ mm', Goes mm (takeT m t) 3 mm' (-1) ∧ PFree m mm' [] ∧ SameGen m mm mm' ∧ (Rng mm → Rng mm') := by
  have p1 := h.pool.latch (t + 1)
  have hz := p1.zero
  refine ⟨(mm.set 0 (t + 1)).set 0 0, ?_, ⟨p1.latch 0, List.getElem?_set_self hz⟩, ⟨by simp, fun k hk => ?_⟩, fun hr => (hr.set 0 (by omega)).set 0 (by omega)⟩
  · rw [takeT_eq]
    refine Goes.step (show (4 : Nat) < 5 by omega) (oTake h.free ht) (if_neg (by decide)) ?_
    refine Goes.step (show (0 : Nat) < 5 by omega) (oLoad (p1.head) (by simp [headOf])) ?_ (T := outT 0 t (-1)) ?_
    · have e1 : IntKind.u64.wrap (headOf []) = 0 := wrap_small (by simp [headOf])
      have e2 : pmS m 0 = -1 := by rw [pmS_of (by omega)]; omega
      rw [e1, e2, if_pos rfl]
    refine Goes.step (show (2 : Nat) < 5 by omega) (oDrop (t := t) ?_ ht) rfl (.ret _ _)
    rw [List.getElem?_set_self (by simpa using hz)]
  · have hg := gen_ne (m := m) (k := k)
    rw [List.getElem?_set_ne (by omega), List.getElem?_set_ne (by omega)]
theorem goes_back {m : Mp} {mm L : List Int} {n t g : Int} (hm : m.n ≤ 4096) (h : PFree m mm L) (ht : 0 ≤ t ∧ t ≤ 100000) (hn : 0 ≤ n ∧ n < m.n) (hL : n ∉ L) (hg : mm[genN m n]? = some g) (hg2 : 0 ≤ g ∧ g < 4095) :
    ∃ mm', Goes mm (backT m t n) 6 mm' 1 ∧ PFree m mm' (n :: L) ∧ SameGen m mm mm' ∧ (Rng mm → Rng mm') := by
  have hr := h.pool.headr
  have p1 := h.pool.latch (t + 1)
  have hz := p1.zero
  have hne : ∀ x ∈ L, linkN m n ≠ linkN m x := fun x hx e => hL (by have := linkN_inj hn.1 (h.pool.low x hx).1 e; rw [this]; exact hx)
  have h9 := linkN_two (m := m) (k := n)
  have p2 := p1.set (linkN m n) (headOf L) (by omega) hne
  have hlk : linkN m n < (mm.set 0 (t + 1)).length := by have := linkN_lt hn; have := p1.len; omega
  have p3 := p2.push hn hL (List.getElem?_set_self hlk)
  refine ⟨(((mm.set 0 (t + 1)).set (linkN m n) (headOf L)).set 1 (n + 1)).set 0 0, ?_, ⟨p3.latch 0, List.getElem?_set_self p3.zero⟩, ⟨by simp, fun k hk => ?_⟩, fun hR => (((hR.set 0 (by omega)).set _ (by omega)).set 1 (by omega)).set 0 (by omega)⟩
  · rw [backT_eq]
    refine Goes.step (show (4 : Nat) < 5 by omega) (oTake h.free ht) (if_neg (by decide)) ?_
    have hgn := gen_ne (m := m) (k := n)
    refine Goes.step (show (0 : Nat) < 5 by omega) (oLoad (c := g) (by rw [List.getElem?_set_ne (by omega)]; exact hg) (by omega)) ?_ (T := bk2 m t n) ?_
    · rw [wrap_small (by omega), if_neg (by omega)]
    refine Goes.step (show (0 : Nat) < 5 by omega) (oLoad p1.head (by omega)) ?_ (T := bk3 m t n (headOf L)) ?_
    · rw [wrap_small (by omega)]
    refine Goes.step (show (1 : Nat) < 5 by omega) (oStore (List.getElem?_eq_getElem hlk)) rfl ?_
    refine Goes.step (show (1 : Nat) < 5 by omega) (oStore p2.head) rfl ?_
    refine Goes.step (show (2 : Nat) < 5 by omega) (oDrop (t := t) ?_ ht) rfl (.ret _ _)
    rw [List.getElem?_set_ne (by omega), List.getElem?_set_ne (by omega), List.getElem?_set_self (by simpa using hz)]
  · have hg := gen_ne (m := m) (k := k)
    rw [List.getElem?_set_ne (by omega), List.getElem?_set_ne (by omega), List.getElem?_set_ne (linkN_gen hn.1 hk), List.getElem?_set_ne (by omega)]
theorem goes_last {m : Mp} {mm L : List Int} {n t g : Int} (h : PFree m mm L) (ht : 0 ≤ t ∧ t ≤ 100000) (hg : mm[genN m n]? = some g) (hg2 : 4095 ≤ g ∧ g ≤ 1000000) :
    ∃ mm', Goes mm (backT m t n) 3 mm' 0 ∧ PFree m mm' L ∧ SameGen m mm mm' ∧ (Rng mm → Rng mm') := by
  have p1 := h.pool.latch (t + 1)
  have hz := p1.zero
  refine ⟨(mm.set 0 (t + 1)).set 0 0, ?_, ⟨p1.latch 0, List.getElem?_set_self hz⟩, ⟨by simp, fun k hk => ?_⟩, fun hr => (hr.set 0 (by omega)).set 0 (by omega)⟩
  · rw [backT_eq]
    refine Goes.step (show (4 : Nat) < 5 by omega) (oTake h.free ht) (if_neg (by decide)) ?_
    have hgn := gen_ne (m := m) (k := n)
    refine Goes.step (show (0 : Nat) < 5 by omega) (oLoad (c := g) (by rw [List.getElem?_set_ne (by omega)]; exact hg) (by omega)) ?_ (T := outT 0 t 0) ?_
    · rw [wrap_small (by omega), if_pos (by omega)]
    refine Goes.step (show (2 : Nat) < 5 by omega) (oDrop (t := t) ?_ ht) rfl (.ret _ _)
    rw [List.getElem?_set_self (by simpa using hz)]
  · have hg := gen_ne (m := m) (k := k)
    rw [List.getElem?_set_ne (by omega), List.getElem?_set_ne (by omega)]
/-- a new task, to its end -/
theorem prun_any {w w1 : World} {C S t' : Nat} {mm mm' : List Int} {n v : Int} {T : Tre Itm} (h : CellsAt w C S mm n) (hM : MadeT (cellOps C 0) w (fun b => w.heap.size ≤ b) T t' w1) {c most : Nat} (hG : Goes mm T c mm' v) (hc : c ≤ most) (hm : most ≤ 1000) (hn : 0 ≤ n ∧ n ≤ 1000000) {mI : Int} (hI : mI = most) :
    Calls Tryz.prog 111 #[pV t', .int .i64 mI] w1 fun e w' => e = .returned (.int .i64 v) ∧ CellsAt w' C S mm' (n + c) ∧ Keep (ofCells C S) w w' := by
  have hT : TkT (cellOps C 0) w1 t' (fun b => w.heap.size ≤ b ∧ b < w1.heap.size) T := TkT.new hM.2.1 hM.1
  have hC := h.keep (Keep.ofBelow (Q := fun _ => False) hM.2.2) (fun h => h) (fun h => h)
  have l1 := h.own.lt
  have l2 := h.row.lt
  refine (pall_any C 0 S t' _ T c most mm mm' v n w1 hG hc hm hT hC (fun b hb => by omega) hn hI).mono ?_
  rintro e w' ⟨rfl, h3, h4⟩
  have k1 : Keep (ofCells C S) w w1 := Keep.ofBelow hM.2.2
  exact ⟨rfl, h3, k1.step h4 fun i hi hh => hh.elim (fun hh => by omega) id⟩
section
variable {w : World} {C S : Nat} {m : Mp} {mm : List Int} {n : Int}
/-- Take, made -/
theorem vtake (hm : m.ok) (t : Int) (ht : 0 ≤ t) (hs : sizeN m ≤ mm.length) (h : CellsAt w C S mm n) :
    Calls Tryz.prog 34 #[cellsV C, mapV m, .int .i64 t] w fun e w' => ∃ k, e = .returned (pV k) ∧ MadeT (cellOps C 0) w (fun b => w.heap.size ≤ b) (takeT m t) k w' :=
  ptake_any C 0 m _ t mm.length w hm ht hs (fun W hW => len_any C S mm n W (h.keep (Keep.ofBelow (Q := fun _ => False) hW) (fun h => h) (fun h => h))) (fun _ h => h)
theorem vback (hm : m.ok) (t x : Int) (ht : 0 ≤ t) (hx : 0 ≤ x ∧ x < m.n) (hs : sizeN m ≤ mm.length) (h : CellsAt w C S mm n) :
    Calls Tryz.prog 35 #[cellsV C, mapV m, .int .i64 t, .int .i64 x] w fun e w' => ∃ k, e = .returned (pV k) ∧ MadeT (cellOps C 0) w (fun b => w.heap.size ≤ b) (backT m t x) k w' :=
  pback_any C 0 m _ t x mm.length w hm ht hx hs (fun W hW => len_any C S mm n W (h.keep (Keep.ofBelow (Q := fun _ => False) hW) (fun h => h) (fun h => h))) (fun _ h => h)
end
end Go.Proofs.YtldofbkjjmnooaaGreat
/- Package queue: lineAt. -/
namespace Go.Proofs.YtldofbkjjmnooaaGreat
open Go.ChangeShapes Go.WideShapes Go.ChangeAt Go.RowKit
set_option linter.unusedVariables false
set_option maxRecDepth 100000
set_option linter.unusedSimpArgs false
theorem lineAt_any (C a : Nat) (m : Mp) (w : World) (ha : a ≤ 100000000) : Calls Tryz.prog 103 #[cellsV C, mapV m, .int .i64 (a : Int)] w fun e w' => e = .returned (lineV C a m) ∧ Below w.heap.size w w' := by
  have hmf : ∀ (fn : Fn) (first cap : Array Value) (w : World), (Instr.makeFunc fn first cap).run Tryz.prog w = .ok (.func fn first cap) w := fun _ _ _ _ => rfl
  go_enter Tryz.func103, Tryz.ntmps103
  go_wp2
  have h := Blk.new (w.alloc (.cells #[.int .i64 (m.t : Int), .int .i64 (m.o : Int), .int .i64 (m.n : Int)] 24)) 153 #[cellsV C, .int .i64 (a : Int), .int .i64 ((a : Int) + 1), nextV m, .int .i64 (m.t : Int)]
  simp only [World.size_alloc] at h
  exact bodyPost_ret (v := lineV C a m) (results_cell_row rfl _ _ (w.heap.size + 1) 153 _ (0, 0) _ rfl h Tryz.underlying153 rfl (by kernel_rfl)) rfl ⟨rfl, by go_grown⟩
end Go.Proofs.YtldofbkjjmnooaaGreat
