/- Layer 10: what a queue is in cells, and what its changes come to; no program is named here. 'nx t' is the cell Next of thread t; f reads the cells. -/
import Derived.Test.YtldofbkjjmnooaaGreatMgQTLE
import Derived.Test.YtldofbkjjmnooaaGreatMgQTLD
namespace Go.Proofs.YtldofbkjjmnooaaGreat
set_option linter.unusedVariables false
set_option linter.unusedSimpArgs false
/-- the first of a row, in the cells' form -/
def headOf : List Int → Int
  | [] => 0
  | t :: _ => t + 1
def lastOf (l : List Int) : Int := headOf l.reverse
theorem headOf_zero {l : List Int} (h : ∀ t ∈ l, 0 ≤ t) : headOf l = 0 ↔ l = [] := by
  cases l with
  | nil => simp [headOf]
  | cons t r =>
    have := h t (by simp)
    simp [headOf]; omega
theorem lastOf_zero {l : List Int} (h : ∀ t ∈ l, 0 ≤ t) : lastOf l = 0 ↔ l = [] := by
  rw [lastOf, headOf_zero (by simpa using h)]; simp
theorem lastOf_snoc (l : List Int) (t : Int) : lastOf (l ++ [t]) = t + 1 := by simp [lastOf, headOf]
theorem headOf_append {l : List Int} (h : l ≠ []) (r : List Int) : headOf (l ++ r) = headOf l := by
  cases l with
  | nil => exact absurd rfl h
  | cons t l => rfl
theorem lastOf_append {r : List Int} (h : r ≠ []) (l : List Int) : lastOf (l ++ r) = lastOf r := by
  rw [lastOf, List.reverse_append, headOf_append (by simpa using h)]; rfl
/-- a queue at cell a -/
structure QIs (nx : Int → Nat) (f : Nat → Int) (a : Nat) (l : List Int) : Prop where
  first : f a = headOf l
  last : f (a + 1) = lastOf l
  next : ∀ p t s, l = p ++ t :: s → f (nx t) = headOf s
theorem QIs.nil {nx : Int → Nat} {f : Nat → Int} {a : Nat} (h : f a = 0) (h1 : f (a + 1) = 0) : QIs nx f a [] :=
  ⟨h, h1, fun p t s e => by simp at e⟩
/-- cells that are not its own -/
theorem QIs.congr {nx : Int → Nat} {f g : Nat → Int} {a : Nat} {l : List Int} (h : QIs nx f a l) (h1 : g a = f a) (h2 : g (a + 1) = f (a + 1)) (h3 : ∀ t ∈ l, g (nx t) = f (nx t)) : QIs nx g a l :=
  ⟨h1.trans h.first, h2.trans h.last, fun p t s e => (h3 t (by rw [e]; simp)).trans (h.next p t s e)⟩
theorem QIs.push {nx : Int → Nat} {f g : Nat → Int} {a : Nat} {l : List Int} {t : Int} (h : QIs nx f a l) (h1 : g a = headOf (l ++ [t])) (h2 : g (a + 1) = t + 1) (h3 : g (nx t) = 0)
    (h4 : ∀ p u, l = p ++ [u] → g (nx u) = t + 1) (h5 : ∀ p u s, l = p ++ u :: s → s ≠ [] → g (nx u) = f (nx u)) : QIs nx g a (l ++ [t]) := by
  refine ⟨h1, by rw [h2, lastOf_snoc], fun p u s e => ?_⟩
  rcases List.eq_nil_or_concat s with rfl | ⟨s', z, rfl⟩
  · obtain ⟨_, e2⟩ := List.append_inj' e rfl
    obtain rfl : t = u := by simpa using e2
    exact h3
  · rw [List.concat_eq_append] at e ⊢
    rw [show p ++ u :: (s' ++ [z]) = (p ++ u :: s') ++ [z] by simp] at e
    obtain ⟨e1, e2⟩ := List.append_inj' e rfl
    obtain rfl : t = z := by simpa using e2
    by_cases hs : s' = []
    · subst hs
      exact h4 p u e1
    · rw [h5 p u s' e1 hs, h.next p u s' e1, headOf_append hs]
theorem QIs.pop {nx : Int → Nat} {f g : Nat → Int} {a : Nat} {r : List Int} {t : Int} (h : QIs nx f a (t :: r)) (h1 : g a = headOf r) (h2 : g (a + 1) = lastOf r) (h3 : ∀ u ∈ r, g (nx u) = f (nx u)) : QIs nx g a r :=
  ⟨h1, h2, fun p u s e => (h3 u (by rw [e]; simp)).trans (h.next (t :: p) u s (by rw [e]; rfl))⟩
theorem QIs.remove {nx : Int → Nat} {f g : Nat → Int} {a : Nat} {p s : List Int} {t : Int} (h : QIs nx f a (p ++ t :: s)) (h1 : g a = headOf (p ++ s)) (h2 : g (a + 1) = lastOf (p ++ s))
    (h3 : ∀ q u, p = q ++ [u] → g (nx u) = headOf s) (h4 : ∀ q u r, p = q ++ u :: r → r ≠ [] → g (nx u) = f (nx u)) (h5 : ∀ u ∈ s, g (nx u) = f (nx u)) : QIs nx g a (p ++ s) := by
  refine ⟨h1, h2, fun q u r e => ?_⟩
  rcases List.append_eq_append_iff.1 e with ⟨a', e1, e2⟩ | ⟨c', e1, e2⟩
  · -- u lies in s
    rw [h5 u (by rw [e2]; simp)]
    refine h.next (p ++ t :: a') u r ?_
    rw [e2]; simp
  · cases c' with
    | nil =>
      simp at e1 e2
      rw [h5 u (by rw [← e2]; simp)]
      exact h.next (p ++ [t]) u r (by rw [← e2]; simp)
    | cons x c' =>
      simp at e2
      obtain ⟨rfl, rfl⟩ := e2
      by_cases hc : c' = []
      · subst hc
        simpa using h3 q u e1
      · rw [h4 q u c' e1 hc, h.next q u (c' ++ t :: s) (by rw [e1]; simp), headOf_append hc, headOf_append hc]
/-- where a walk stands -/
theorem QIs.walk {nx : Int → Nat} {f : Nat → Int} {a k : Nat} {l : List Int} {t : Int} (h : QIs nx f a l) (hk : l[k]? = some t) : headOf (l.drop k) = t + 1 ∧ f (nx t) = headOf (l.drop (k + 1)) := by
  obtain ⟨hlt, e⟩ := List.getElem?_eq_some_iff.1 hk
  have e1 : l.drop k = t :: l.drop (k + 1) := by rw [List.drop_eq_getElem_cons hlt, e]
  refine ⟨by rw [e1]; rfl, h.next (l.take k) t _ ?_⟩
  rw [← e1, List.take_append_drop]
/-- cells read from a row of numbers -/
def rdL (m : List Int) (i : Nat) : Int := (m[i]?).getD 0
theorem rdL_set (m : List Int) (i j : Nat) (v : Int) (h : i < m.length) : rdL (m.set i v) j = if j = i then v else rdL m j := by
  unfold rdL
  rw [List.getElem?_set]
  by_cases e : i = j
  · subst e; simp [h]
  · simp [e, Ne.symm e]
end Go.Proofs.YtldofbkjjmnooaaGreat
/- Package task: Spin, Loop. -/
namespace Go.Proofs.YtldofbkjjmnooaaGreat
open Go.ChangeShapes Go.WideShapes Go.ChangeAt Go.RowKit
set_option linter.unusedVariables false
set_option maxRecDepth 100000
set_option linter.unusedSimpArgs false
theorem call_spin1 : ∀ (W : World) (args : Array Value), (callFunc 216 args).run Tryz.prog W = .ok (.enter 216 args) W := by
  intro W args
  go_simp
theorem call_spin11 : ∀ (W : World) (args : Array Value), (callFunc 218 args).run Tryz.prog W = .ok (.enter 218 args) W := by
  intro W args
  go_simp
theorem call_loop1 : ∀ (W : World) (args : Array Value), (callFunc 274 args).run Tryz.prog W = .ok (.enter 274 args) W := by
  intro W args
  go_simp
theorem spin11_any (v : Int) (w : World) :
    Calls Tryz.prog 218 #[.int .i64 v] w fun e w' => ∃ t, e = .returned (pV t) ∧ w.heap.size ≤ t ∧ DoneV w' (some ⟨t, 0, none⟩) (if v = 0 then -2147483648 else v) ∧ Below w.heap.size w w' := by
  by_cases h : v = 0
  · subst h
    go_enter Tryz.func218, Tryz.ntmps218
    go_wp2_with (first | (go_at_call 219; refine (truth_any _ _).mono ?_; rintro e w3 ⟨rfl, rfl⟩) | (go_at_call 102; refine (ready_any _ _).mono ?_; rintro e w2 ⟨t, rfl, h1, h2, h3⟩))
    go_ret
    exact ⟨t, rfl, h1, .inr ⟨t, rfl, by simpa using h2⟩, h3⟩
  · go_enter Tryz.func218, Tryz.ntmps218
    go_wp2_with (first | (go_at_call 219; refine (truth_any _ _).mono ?_; rintro e w3 ⟨rfl, rfl⟩) | (go_at_call 102; refine (ready_any _ _).mono ?_; rintro e w2 ⟨t, rfl, h1, h2, h3⟩))
    go_ret
    exact ⟨t, rfl, h1, .inr ⟨t, rfl, by simpa [h] using h2⟩, h3⟩
/-- a try of a spin, and what asks whether it went -/
def SpinMid (w : World) (C : Nat) (Q : Nat → Prop) (x : Itm) (t : Nat) : Prop :=
  ∃ b F caps j k3, Live w t (cloV 260 #[pV b]) (.pointer none) j ∧ Q b ∧ Blk w b 28 #[cloV F caps] ∧ CloAt w C Q x F caps ∧ TreeO w Q j [k3] ∧ Link3 w Q k3
theorem spin1_any (C : Nat) (Q : Nat → Prop) (x : Itm) (bc bi bo bn : Nat) (w : World) (hk : x.kind = 4) (hc : Blk w bc 26 #[cellsV C]) (hi : Blk w bi 3 #[.int .i64 x.at']) (ho : Blk w bo 47 #[.int .u64 x.a]) (hn : Blk w bn 47 #[.int .u64 x.b])
    (hQ : ∀ k, w.heap.size ≤ k → Q k) :
    Calls Tryz.prog 216 #[pV bc, pV bi, pV bo, pV bn] w fun e w' => ∃ t, e = .returned (pV t) ∧ w.heap.size ≤ t ∧ SpinMid w' C Q x t ∧ Below w.heap.size w w' := by
  have c0 : w.cell? ⟨bc, 0, none⟩ = some (cellsV C) := hc.cell 0 _ rfl
  have c1 : w.cell? ⟨bi, 0, none⟩ = some (.int .i64 x.at') := hi.cell 0 _ rfl
  have c2 : w.cell? ⟨bo, 0, none⟩ = some (.int .u64 x.a) := ho.cell 0 _ rfl
  have c3 : w.cell? ⟨bn, 0, none⟩ = some (.int .u64 x.b) := hn.cell 0 _ rfl
  have HS := Lib.hid (tSwap_raw C Q x w (.inr hk) hQ)
  have HQ := Lib.hid hQ
  clear hQ hc hi ho hn
  go_enter Tryz.func216, Tryz.ntmps216
  go_wp2_with (first
    | (go_at_call 217; refine HS.out.mono ?_; rintro e w2 ⟨t, b, F, caps, rfl, h1, h2, h3, h4, h5, h6⟩; have s2 := h6.size; have HT := Lib.hid (then_raw t 218 #[] _ _ _ [] Q w2 ⟨h4, .inl ⟨_, _, rfl, rfl⟩⟩ (.inl ⟨rfl, rfl⟩) (fun k hk => HQ.out k (by omega))))
    | (go_at_call 137; refine HT.out.mono ?_; rintro e w3 ⟨t2, f, j, rfl, g1, g2, g3, g4, g5, gft, g6⟩))
  go_ret
  have k2 : Keep (fun _ => False) w2 w3 := Keep.ofBelow g6
  exact ⟨t2, rfl, by omega, ⟨b, F, caps, j, f, g4, HQ.out b h2, h3.keep k2 (fun h => h), h5.keep k2 (fun _ _ h => h) (fun _ _ h => h), g5.mono (fun _ _ h => h.1), HQ.out f (by omega), g3⟩, h6.trans (g6.mono s2)⟩
theorem loop_any (C P : Nat) (Q : Nat → Prop) (x : Itm) (body : Value) (w : World) (hk : x.kind = 4) (hb : SpinB w C Q x body) (hQ : ∀ k, w.heap.size ≤ k → Q k) :
    Calls Tryz.prog 186 #[body] w fun e w' => ∃ t, e = .returned (pV t) ∧ Made6 w C P Q [x] 0 t w' := by
  have hmf : ∀ (fn : Fn) (first cap : Array Value) (w : World), (Instr.makeFunc fn first cap).run Tryz.prog w = .ok (.func fn first cap) w := fun _ _ _ _ => rfl
  have HB := Lib.hid hb
  have HQ := Lib.hid hQ
  obtain ⟨bc, bi, bo, bn, rfl, q1, q2, q3, q4, b1, b2, b3, b4⟩ := hb
  have HA := Lib.hid fun W (hb : Below w.heap.size w W) => answerT_any 216 #[pV bc, pV bi, pV bo, pV bn] W (fun t w' => W.heap.size ≤ t ∧ SpinMid w' C Q x t ∧ Below W.heap.size W w') call_spin1 (spin1_any C Q x bc bi bo bn W hk (b1.below hb b1.lt) (b2.below hb b2.lt) (b3.below hb b3.lt) (b4.below hb b4.lt) (fun k hk => hQ k (Nat.le_trans hb.size hk)))
  clear hQ b1 b2 b3 b4 q1 q2 q3 q4
  go_enter Tryz.func186, Tryz.ntmps186
  go_upto_region 1 with fail
  generalize hW : (w.alloc _) = W
  have bW : Below w.heap.size w W := by rw [← hW]; go_grown
  have q0 : Blk W w.heap.size 155 #[cloV 216 #[pV bc, pV bi, pV bo, pV bn]] := by rw [← hW]; exact Blk.new w _ _
  clear hW
  have c0 : W.cell? ⟨w.heap.size, 0, none⟩ = some (cloV 216 #[pV bc, pV bi, pV bo, pV bn]) := q0.cell 0 _ rfl
  have sW := bW.size
  have HA2 := Lib.hid (HA.out W bW)
  clear HA
  go_upto_region 2 with (go_at_call 222; refine HA2.out.mono ?_; rintro e w2 ⟨t, rfl, h1, h2, h3⟩)
  obtain ⟨b, F, caps, j, k3, l1, l2, l3, l4, l5, l6⟩ := h2
  have s2 := h3.size
  have HD := Lib.hid (live_done t _ _ j w2 l1)
  have HT := Lib.hid (then_raw t 274 #[pV w.heap.size] _ _ j [k3] Q w2 l1 l5 (fun k hk => HQ.out k (by omega)))
  have Q0 := q0.below h3 q0.lt
  clear c0
  go_wp2_with (first | (go_at_call 38; refine HD.out.mono ?_; rintro e w3 ⟨rfl, rfl⟩) | (go_at_call 137; refine HT.out.mono ?_; rintro e w3 ⟨t2, f, j2, rfl, g1, g2, g3, g4, g5, gft, g6⟩))
  go_ret
  have k2 : Keep (fun _ => False) w2 w3 := Keep.ofBelow g6
  have bw2 : Below w.heap.size w w2 := bW.trans (h3.mono sW)
  have bw3 : Below w.heap.size w w3 := bw2.trans (g6.mono (by omega))
  have hb2 := l3.lt
  refine ⟨t2, rfl, by omega, ⟨_, _, j2, 0, g4.blk, rfl, [k3, f], [], by simpa using g5, .inl ⟨⟨b, F, caps, rfl, rfl, ⟨l2, by omega⟩, l3.keep k2 (fun h => h), l4.keep k2 (fun _ _ h => h) (fun b hb h => ⟨h, by omega⟩)⟩, .inr ⟨hk, k3, f, rfl, l6.keep k2 (fun _ _ h => h) (fun b hb h => ⟨h, by omega⟩), ⟨HQ.out f (by omega), gft⟩, w.heap.size, _, g3, ⟨HQ.out _ (Nat.le_refl _), by have := Q0.lt; omega⟩, Q0.below g6 Q0.lt, ?_⟩⟩, rfl⟩, bw3⟩
  exact HB.out.keep (Keep.ofBelow (Q := fun _ => False) bw3) (fun _ _ h => h) (fun b hb h => ⟨h, by omega⟩)
theorem loop1_any (C P : Nat) (Q : Nat → Prop) (x : Itm) (bb : Nat) (body : Value) (v : Int) (w : World) (hk : x.kind = 4) (hq : Blk w bb 155 #[body]) (hb : SpinB w C Q x body) (hQ : ∀ k, w.heap.size ≤ k → Q k) :
    Calls Tryz.prog 274 #[.int .i64 v, pV bb] w fun e w' => ∃ t, e = .returned (pV t) ∧ ((v = -2147483648 ∧ Made6 w C P Q [x] 0 t w') ∨ (v ≠ -2147483648 ∧ Made6 w C P Q [] v t w')) := by
  have c0 : w.cell? ⟨bb, 0, none⟩ = some body := hq.cell 0 _ rfl
  have HL := Lib.hid (loop_any C P Q x body w hk hb hQ)
  clear hq hQ
  obtain ⟨bc, bi, bo, bn, rfl, _⟩ := hb
  by_cases h : v = -2147483648
  · subst h
    go_enter Tryz.func274, Tryz.ntmps274
    go_wp2_with (go_at_call 186; refine HL.out.mono ?_; rintro e w2 ⟨t, rfl, h1⟩)
    go_ret
    exact ⟨t, rfl, .inl ⟨by first | trivial | rfl, h1⟩⟩
  · go_enter Tryz.func274, Tryz.ntmps274
    go_wp2_with (go_at_call 102; refine (tready_any C P Q _ _).mono ?_; rintro e w2 ⟨t, rfl, h1⟩)
    go_ret
    exact ⟨t, rfl, .inr ⟨h, h1⟩⟩
theorem tspin_any (C P : Nat) (Q : Nat → Prop) (x : Itm) (w : World) (hk : x.kind = 4) (hQ : ∀ k, w.heap.size ≤ k → Q k) :
    Calls Tryz.prog 136 #[cellsV C, .int .i64 x.at', .int .u64 x.a, .int .u64 x.b] w fun e w' => ∃ t, e = .returned (pV t) ∧ Made6 w C P Q [x] 0 t w' := by
  have hmf : ∀ (fn : Fn) (first cap : Array Value) (w : World), (Instr.makeFunc fn first cap).run Tryz.prog w = .ok (.func fn first cap) w := fun _ _ _ _ => rfl
  have HQ := Lib.hid hQ
  clear hQ
  go_enter Tryz.func136, Tryz.ntmps136
  go_upto_region 1 with fail
  generalize hW : (((w.alloc _).alloc _).alloc _).alloc _ = W
  have bW : Below w.heap.size w W := by rw [← hW]; go_grown
  have sW : W.heap.size = w.heap.size + 4 := by rw [← hW]; simp
  have q0 : Blk W w.heap.size 26 #[cellsV C] := by rw [← hW]; have h := Blk.new (w) 26 #[cellsV C]; (try simp only [World.size_alloc] at h); exact (((h.alloc _).alloc _).alloc _)
  have q1 : Blk W (w.heap.size + 1) 3 #[.int .i64 x.at'] := by rw [← hW]; have h := Blk.new ((w).alloc (.cells #[cellsV C] 26)) 3 #[.int .i64 x.at']; (try simp only [World.size_alloc] at h); exact ((h.alloc _).alloc _)
  have q2 : Blk W (w.heap.size + 2) 47 #[.int .u64 x.a] := by rw [← hW]; have h := Blk.new (((w).alloc (.cells #[cellsV C] 26)).alloc (.cells #[.int .i64 x.at'] 3)) 47 #[.int .u64 x.a]; (try simp only [World.size_alloc] at h); exact (h.alloc _)
  have q3 : Blk W (w.heap.size + 3) 47 #[.int .u64 x.b] := by rw [← hW]; have h := Blk.new ((((w).alloc (.cells #[cellsV C] 26)).alloc (.cells #[.int .i64 x.at'] 3)).alloc (.cells #[.int .u64 x.a] 47)) 47 #[.int .u64 x.b]; (try simp only [World.size_alloc] at h); exact h
  clear hW
  have HL := Lib.hid (loop_any C P Q x _ W hk ⟨w.heap.size, w.heap.size + 1, w.heap.size + 2, w.heap.size + 3, rfl, HQ.out _ (by omega), HQ.out _ (by omega), HQ.out _ (by omega), HQ.out _ (by omega), q0, q1, q2, q3⟩ (fun k hk => HQ.out k (by omega)))
  go_wp2_with (go_at_call 186; refine HL.out.mono ?_; rintro e w1 ⟨t, rfl, h1, h2, h3⟩)
  go_ret
  exact ⟨t, rfl, by omega, h2, bW.trans (h3.mono bW.size)⟩
end Go.Proofs.YtldofbkjjmnooaaGreat
/- Package task: going on behind a step. -/
namespace Go.Proofs.YtldofbkjjmnooaaGreat
open Go.ChangeShapes Go.WideShapes Go.ChangeAt Go.RowKit
set_option linter.unusedVariables false
set_option maxRecDepth 100000
set_option linter.unusedSimpArgs false
theorem DoneV.val {w : World} {n : Option Addr} {v v' : Int} (h : DoneV w n v) (h' : DoneV w n v') : v' = v := by
  rcases h with ⟨e1, e2⟩ | ⟨k1, e1, e2⟩
  · rcases h' with ⟨e3, e4⟩ | ⟨k3, e3, e4⟩
    · rw [e4, e2]
    · rw [e1] at e3; cases e3
  · rcases h' with ⟨e3, e4⟩ | ⟨k3, e3, e4⟩
    · rw [e1] at e3; cases e3
    · rw [e1] at e3; obtain rfl : k1 = k3 := by simpa using e3
      have e := (show w.heap[k1]? = _ from e4).symm.trans e2
      simpa using e
/-- between a step's operation and its end: the task at hand, what follows, and what is to come of both -/
def Jot (C P : Nat) (Q : Nat → Prop) (t : Nat) (R : List Itm) (V : Int) (a : World) (n : Option Addr) (fs : List Nat) : Prop :=
  (∃ k r v r', n = some ⟨k, 0, none⟩ ∧ k ≠ t ∧ TaskC a C P Q k r v ∧ Conts (Cont a C P Q) fs r' ∧ (r = [] → onS r' v = (R, V)) ∧ (r ≠ [] → R = r ++ r')) ∨
  (∃ k v x k2 gs r', n = some ⟨k, 0, none⟩ ∧ k ≠ t ∧ fs = k2 :: gs ∧ DoneV a n v ∧ x.kind = 4 ∧ Link2 a C Q x k2 ∧ Conts (Cont a C P Q) gs r' ∧ (v = -2147483648 → R = x :: r') ∧ (v ≠ -2147483648 → onS r' v = (R, V))) ∨
  (∃ k v x k3 k2 gs r', n = some ⟨k, 0, none⟩ ∧ k ≠ t ∧ fs = k3 :: k2 :: gs ∧ DoneV a n v ∧ x.kind = 4 ∧ Link3 a Q k3 ∧ Link2 a C Q x k2 ∧ Conts (Cont a C P Q) gs r' ∧ (v = 0 → R = x :: r') ∧ (v ≠ 0 → v ≠ -2147483648 ∧ onS r' v = (R, V)))
theorem Jot.keep {C P : Nat} {Q : Nat → Prop} {t : Nat} {R : List Itm} {V : Int} {a b : World} {n : Option Addr} {fs : List Nat} (h : Jot C P Q t R V a n fs) (hk : Keep (fun k => k = t) a b) (hQt : ¬ Q t) : Jot C P Q t R V b n fs := by
  have hd : ∀ b, Q b → ¬ (b = t) := fun b hb e => hQt (e ▸ hb)
  have hq : ∀ b, b < a.heap.size → Q b → Q b := fun _ _ h => h
  rcases h with ⟨k, r, v, r', e, h1, h2, h3, h4⟩ | ⟨k, v, x, k2, gs, r', e, h1, h2, h3, h4, h5, h6, h7⟩ | ⟨k, v, x, k3, k2, gs, r', e, h1, h2, h3, h4, h5, h6, h7, h8⟩
  · exact .inl ⟨k, r, v, r', e, h1, h2.keep hk hd h1 hq, h3.keep hk hd hq, h4⟩
  · exact .inr (.inl ⟨k, v, x, k2, gs, r', e, h1, h2, h3.keep hk (fun j ej => by rw [e] at ej; injection ej with ej; injection ej with ej; omega), h4, h5.keep hk hd hq, h6.keep hk hd hq, h7⟩)
  · exact .inr (.inr ⟨k, v, x, k3, k2, gs, r', e, h1, h2, h3.keep hk (fun j ej => by rw [e] at ej; injection ej with ej; injection ej with ej; omega), h4, h5.keep hk hd hq, h6.keep hk hd hq, h7.keep hk hd hq, h8⟩)
theorem done_task {C P : Nat} {Q : Nat → Prop} {k : Nat} {v : Int} {w : World} (h : DoneV w (some ⟨k, 0, none⟩) v) : TaskC w C P Q k [] v := by
  obtain ⟨k', e, h⟩ := h.resolve_left (fun h => by cases h.1)
  obtain rfl : k = k' := by simpa using e
  exact ⟨_, _, _, _, h, rfl, rfl, rfl, rfl⟩
/-- what is called next leaves as much -/
theorem Jot.next {C P : Nat} {Q : Nat → Prop} {t : Nat} {R : List Itm} {V : Int} {a : World} {n : Option Addr} {f : Nat} {fs : List Nat} {v : Int} (h : Jot C P Q t R V a n (f :: fs)) (hd : DoneV a n v) (ht : t < a.heap.size) (hQ : ∀ k, a.heap.size ≤ k → Q k) :
    Calls Tryz.prog 221 #[.int .i64 v, pV f] a fun e b => ∃ k, e = .returned (pV k) ∧ Jot C P Q t R V b (some ⟨k, 0, none⟩) fs ∧ Below a.heap.size a b := by
  rcases h with ⟨k, r, v', r', rfl, h1, h2, h3, h4, h5⟩ | ⟨k, v', x, k2, gs, r', e, h1, h2, h3, h4, h5, h6, h7, h8⟩ | ⟨k, v', x, k3, k2, gs, r', e, h1, h2, h3, h4, h5, h6, h7, h8, h9⟩
  · obtain ⟨s, r2, hc, hcs, rfl⟩ := h3
    have hr : r = [] ∧ v' = v := by
      rcases h2.view with ⟨rfl, hd'⟩ | ⟨x, r', d, p, rest, gs, fs, rfl, hL, _⟩
      · exact ⟨rfl, hd.val hd'⟩
      · exact (hd.live hL).elim
    obtain ⟨rfl, rfl⟩ := hr
    refine (cont_call C P Q f s v' a hc hQ).mono ?_
    rintro e b ⟨k', rfl, hM⟩
    have g2 := hM.task
    obtain ⟨g1, _, g3⟩ := hM
    have hk : Keep (fun _ => False) a b := Keep.ofBelow g3
    refine ⟨k', rfl, .inl ⟨k', _, _, r2, rfl, by omega, g2, hcs.keep hk (fun _ _ h => h) (fun _ _ h => h), fun he => ?_, fun he => ?_⟩, g3⟩
    · have := h4 rfl
      rwa [onS_append, if_pos he] at this
    · have := h4 rfl
      rw [onS_append, if_neg he] at this
      exact (congrArg Prod.fst this).symm
  · obtain rfl : v' = v := hd.val h3
    simp only [List.cons.injEq] at h2
    obtain ⟨rfl, rfl⟩ := h2
    obtain ⟨q1, bb, body, q2, q3, q4, q5⟩ := h5
    refine (then1_any f 274 #[pV bb] v' a (fun k b => Below a.heap.size a b ∧ a.heap.size ≤ k ∧ ((v' = -2147483648 ∧ TaskC b C P Q k [x] 0) ∨ (v' ≠ -2147483648 ∧ TaskC b C P Q k [] v'))) q2 call_loop1 fun w1 hb => ?_).mono ?_
    · have hsz := hb.size
      refine (loop1_any C P Q x bb body v' w1 h4 (q4.below hb q4.lt) (q5.keep (Keep.ofBelow (Q := fun _ => False) hb) (fun _ _ h => h) (fun _ _ h => h)) (fun k hk => hQ k (by omega))).mono ?_
      rintro e w2 ⟨k', rfl, ⟨e1, hM⟩ | ⟨e1, hM⟩⟩
      · exact ⟨k', rfl, hb.trans (hM.2.2.mono hsz), Nat.le_trans hsz hM.1, .inl ⟨e1, hM.task⟩⟩
      · exact ⟨k', rfl, hb.trans (hM.2.2.mono hsz), Nat.le_trans hsz hM.1, .inr ⟨e1, hM.task⟩⟩
    · rintro e b ⟨k', rfl, g1, g2, ⟨e1, g3⟩ | ⟨e1, g3⟩⟩
      · refine ⟨k', rfl, .inl ⟨k', [x], 0, r', rfl, by omega, g3, h6.keep (Keep.ofBelow (Q := fun _ => False) g1) (fun _ _ h => h) (fun _ _ h => h), fun he => (by cases he), fun _ => h7 e1⟩, g1⟩
      · refine ⟨k', rfl, .inl ⟨k', [], v', r', rfl, by omega, g3, h6.keep (Keep.ofBelow (Q := fun _ => False) g1) (fun _ _ h => h) (fun _ _ h => h), fun _ => h8 e1, fun he => absurd rfl he⟩, g1⟩
  · obtain rfl : v' = v := hd.val h3
    simp only [List.cons.injEq] at h2
    obtain ⟨rfl, rfl⟩ := h2
    obtain ⟨q1, q2⟩ := h5
    refine (then1_any f 218 #[] v' a (fun k b => Below a.heap.size a b ∧ a.heap.size ≤ k ∧ DoneV b (some ⟨k, 0, none⟩) (if v' = 0 then -2147483648 else v')) q2 call_spin11 fun w1 hb => ?_).mono ?_
    · have hsz := hb.size
      refine (spin11_any v' w1).mono ?_
      rintro e w2 ⟨k', rfl, g1, g2, g3⟩
      exact ⟨k', rfl, hb.trans (g3.mono hsz), by omega, g2⟩
    · rintro e b ⟨k', rfl, g1, g2, g3⟩
      refine ⟨k', rfl, .inr (.inl ⟨k', _, x, k2, gs, r', rfl, by omega, rfl, g3, h4, h6.keep (Keep.ofBelow (Q := fun _ => False) g1) (fun _ _ h => h) (fun _ _ h => h), h7.keep (Keep.ofBelow (Q := fun _ => False) g1) (fun _ _ h => h) (fun _ _ h => h), fun he => ?_, fun he => ?_⟩), g1⟩
      · by_cases hv : v' = 0
        · exact h8 hv
        · rw [if_neg hv] at he
          exact absurd he (h9 hv).1
      · by_cases hv : v' = 0
        · rw [if_pos hv] at he; exact absurd rfl he
        · rw [if_neg hv]; exact (h9 hv).2
theorem Jot.view {C P : Nat} {Q : Nat → Prop} {t : Nat} {R : List Itm} {V : Int} {a : World} {n : Option Addr} {fs : List Nat} (h : Jot C P Q t R V a n fs) :
    n ≠ some ⟨t, 0, none⟩ ∧ ((∃ v, DoneV a n v) ∨ ∃ k d p r gs, n = some ⟨k, 0, none⟩ ∧ Live a k d p r ∧ TreeO a Q r gs) := by
  rcases h with ⟨k, r, v', r', rfl, h1, h2, h3, h4, h5⟩ | ⟨k, v', x, k2, gs, r', rfl, h1, h2, h3, h4, h5, h6, h7, h8⟩ | ⟨k, v', x, k3, k2, gs, r', rfl, h1, h2, h3, h4, h5, h6, h7, h8, h9⟩
  · refine ⟨fun e => by injection e with e; injection e with e; exact h1 e, ?_⟩
    rcases h2.view with ⟨rfl, hd'⟩ | ⟨x, r', d, p, rest, gs, fs, rfl, hL, hT, _⟩
    · exact .inl ⟨_, hd'⟩
    · exact .inr ⟨k, d, p, rest, gs ++ fs, rfl, hL, hT⟩
  · exact ⟨fun e => by injection e with e; injection e with e; exact h1 e, .inl ⟨_, h3⟩⟩
  · exact ⟨fun e => by injection e with e; injection e with e; exact h1 e, .inl ⟨_, h3⟩⟩
theorem goon_task (C P : Nat) (Q : Nat → Prop) (t k : Nat) (R : List Itm) (V : Int) (d0 p0 r0 : Value) (fs : List Nat) (w : World) (ht : Blk w t 161 #[d0, p0, r0, .int .i64 0]) (hr : TreeO w Q r0 fs) (hQ : ∀ k, w.heap.size ≤ k → Q k) (hQt : ¬ Q t)
    (hJ : Jot C P Q t R V w (some ⟨k, 0, none⟩) fs) :
    Calls Tryz.prog 119 #[pV t, pV k] w fun e w' => e = .returned (.tuple #[]) ∧ Keep (fun k => k = t) w w' ∧ TaskC w' C P Q t R V := by
  have hlt := ht.lt
  refine (goon_gen t (some ⟨k, 0, none⟩) d0 p0 r0 0 fs Q (Jot C P Q t R V) w ht hr hQ hQt hJ (fun a b n fs _ h hk => h.keep hk hQt) (fun a n fs h => h.view) (fun a n f fs v ha h hd => h.next hd (by omega) (fun k hk => hQ k (by omega)))).mono ?_
  rintro e w' ⟨rfl, hk, n, gs, hj, hp⟩
  refine ⟨rfl, hk, ?_⟩
  rcases hp with ⟨rfl, v, hd, hB⟩ | ⟨k1, d, p, r, g1, j, rfl, hL, hT, hT2, hB⟩
  · rcases hj with ⟨k, r, v', r', rfl, h1, h2, h3, h4, h5⟩ | ⟨_, _, _, _, _, _, _, _, h2, _⟩ | ⟨_, _, _, _, _, _, _, _, _, h2, _⟩
    · rcases h2.view with ⟨rfl, hd'⟩ | ⟨x, r', d, p, rest, gs, fs, rfl, hL, hT, _⟩
      · obtain rfl := hd.val hd'
        have e := h4 rfl
        simp only [Conts] at h3
        subst h3
        simp only [onS, Prod.mk.injEq] at e
        obtain ⟨rfl, rfl⟩ := e
        exact ⟨_, _, _, _, hB, rfl, rfl, rfl, rfl⟩
      · exact (hd.live hL).elim
    · cases h2
    · cases h2
  · rcases hj with ⟨k, r', v', r2, e, h1, h2, h3, h4, h5⟩ | ⟨_, _, _, _, _, _, _, _, _, hd, _⟩ | ⟨_, _, _, _, _, _, _, _, _, _, hd, _⟩
    · obtain rfl : k1 = k := by simpa using e
      rcases h2.view with ⟨rfl, hd'⟩ | ⟨x, r3, d', p', rest, gs', fs', rfl, hL', hT', hO, hC⟩
      · exact (hd'.live hL).elim
      · obtain ⟨rfl, rfl, rfl⟩ := hL.unique hL'
        obtain rfl := hT.unique hT'
        rw [h5 (by simp)]
        exact ⟨_, _, j, 0, hB, rfl, gs', fs' ++ gs, by rw [← List.append_assoc]; exact hT2, hO, Conts.append _ _ _ _ hC h3⟩
    · exact (hd.live hL).elim
    · exact (hd.live hL).elim
end Go.Proofs.YtldofbkjjmnooaaGreat
/- Package task: what a task is, by what it may yet do: what it is made of is told by how it answers when it is called. -/
namespace Go.Proofs.YtldofbkjjmnooaaGreat
open Go.ChangeShapes Go.WideShapes Go.ChangeAt Go.RowKit
set_option linter.unusedVariables false
set_option maxRecDepth 100000
set_option linter.unusedSimpArgs false
/-- what operations are in memory -/
structure Ops (A : Type) where
  is : World → (Nat → Prop) → A → Value → Value → Prop
  keep : ∀ {w w1 : World} {Q Q' F : Nat → Prop} {x : A} {d p : Value}, is w Q x d p → Keep F w w1 → (∀ b, Q b → ¬ F b) → (∀ b, b < w.heap.size → Q b → Q' b) → is w1 Q' x d p
  op : ∀ {w : World} {Q : Nat → Prop} {x : A} {d p : Value}, is w Q x d p → (∃ F caps, d = cloV F caps ∧ p = .pointer none) ∨ ∃ q, d = .nilFunc ∧ p = pV q
/-- a task, and continuations behind it, are together this -/
def Behind {A : Type} (K : Nat → (Int → Tre A) → Prop) : List Nat → Tre A → Tre A → Prop
  | [], T, R => R = T
  | f :: fs, T, R => ∃ k κ, K f k ∧ R = bindT κ T ∧ ∀ v, Behind K fs (k v) (κ v)
theorem Behind.mono {A : Type} {K K' : Nat → (Int → Tre A) → Prop} (h : ∀ f k, K f k → K' f k) : ∀ (fs : List Nat) (T R : Tre A), Behind K fs T R → Behind K' fs T R
  | [], T, R, e => e
  | f :: fs, T, R, ⟨k, κ, h1, e, h2⟩ => ⟨k, κ, h f k h1, e, fun v => Behind.mono h fs _ _ (h2 v)⟩
theorem Behind.more {A : Type} {K : Nat → (Int → Tre A) → Prop} {f : Nat} {fs : List Nat} {k κ : Int → Tre A} (h1 : K f k) (h2 : ∀ v, Behind K fs (k v) (κ v)) : ∀ (gs : List Nat) (T R : Tre A), Behind K gs T R → Behind K (gs ++ f :: fs) T (bindT κ R)
  | [], T, R, e => ⟨k, κ, h1, by rw [show R = T from e], h2⟩
  | g :: gs, T, R, ⟨k1, κ1, g1, e, g2⟩ => ⟨k1, fun v => bindT κ (κ1 v), g1, by rw [e, bindT_assoc], fun v => Behind.more h1 h2 gs _ _ (g2 v)⟩
theorem Behind.op {A : Type} {K : Nat → (Int → Tre A) → Prop} {x : A} {g : Int → Tre A} {gs fs : List Nat} {R : Tre A} (h1 : ∀ v, Behind K gs (retT v) (g v)) (h2 : Behind K fs (opT x g) R) : ∃ g', R = opT x g' ∧ ∀ v, Behind K (gs ++ fs) (retT v) (g' v) := by
  cases fs with
  | nil => exact ⟨g, h2, fun v => by rw [List.append_nil]; exact h1 v⟩
  | cons f fs =>
    obtain ⟨k, κ, a, e, b⟩ := h2
    exact ⟨_, by rw [e, bindT_op], fun v => Behind.more a b gs _ _ (h1 v)⟩
/-- a task, or none, with what is behind it -/
def TaskT {A : Type} (O : Ops A) (K : Nat → (Int → Tre A) → Prop) (w : World) (Q : Nat → Prop) (n : Option Addr) (T : Tre A) : Prop :=
  (∃ v, T = retT v ∧ DoneV w n v) ∨ ∃ x κ k d p rest fs, T = opT x κ ∧ n = some ⟨k, 0, none⟩ ∧ Live w k d p rest ∧ TreeO w Q rest fs ∧ O.is w Q x d p ∧ ∀ v, Behind K fs (retT v) (κ v)
/-- the block of a task is of those of which Q is said -/
def InQ (Q : Nat → Prop) (n : Option Addr) : Prop := ∀ k, n = some ⟨k, 0, none⟩ → Q k
theorem TaskT.keep {A : Type} {O : Ops A} {K K' : Nat → (Int → Tre A) → Prop} {w w1 : World} {Q Q' F : Nat → Prop} {n : Option Addr} {T : Tre A} (h : TaskT O K w Q n T) (hK : ∀ f k, K f k → K' f k) (hk : Keep F w w1) (hd : ∀ b, Q b → ¬ F b) (hn : InQ (fun k => ¬ F k) n) (hq : ∀ b, b < w.heap.size → Q b → Q' b) : TaskT O K' w1 Q' n T := by
  rcases h with ⟨v, e, h⟩ | ⟨x, κ, k, d, p, rest, fs, e, rfl, h1, h2, h3, h4⟩
  · exact .inl ⟨v, e, h.keep hk hn⟩
  · refine .inr ⟨x, κ, k, d, p, rest, fs, e, rfl, h1.keep hk (hn k rfl), ?_, O.keep h3 hk hd hq, fun v => Behind.mono hK _ _ _ (h4 v)⟩
    exact ((h2.mono (Q' := fun b => Q b ∧ Q' b) fun b hb h => ⟨h, hq b hb h⟩).keep hk fun b h => hd b h.1).mono fun b _ h => h.2
/-- what is called when something is done: whatever has become of memory that is not its own -/
def ContS {A : Type} (O : Ops A) (K : World → (Nat → Prop) → Nat → (Int → Tre A) → Prop) (w : World) (Q : Nat → Prop) (f : Nat) (k : Int → Tre A) : Prop :=
  Q f ∧ f < w.heap.size ∧ ∀ v w1, Keep (fun b => ¬ Q b) w w1 → Calls Tryz.prog 221 #[.int .i64 v, pV f] w1 fun e w2 => ∃ n, e = .returned (.pointer n) ∧ Below w1.heap.size w1 w2 ∧
    TaskT O (K w2 fun b => (Q b ∧ b < w.heap.size) ∨ w1.heap.size ≤ b) w2 (fun b => (Q b ∧ b < w.heap.size) ∨ w1.heap.size ≤ b) n (k v) ∧ InQ (fun b => (Q b ∧ b < w.heap.size) ∨ w1.heap.size ≤ b) n
theorem ContS.mono {A : Type} {O : Ops A} {K K' : World → (Nat → Prop) → Nat → (Int → Tre A) → Prop} (hK : ∀ w Q f k, K w Q f k → K' w Q f k) {w : World} {Q : Nat → Prop} {f : Nat} {k : Int → Tre A} (h : ContS O K w Q f k) : ContS O K' w Q f k := by
  obtain ⟨h1, h2, h3⟩ := h
  refine ⟨h1, h2, fun v w1 hw => (h3 v w1 hw).mono ?_⟩
  rintro e w2 ⟨n, rfl, h4, h5, h6⟩
  exact ⟨n, rfl, h4, h5.keep (fun f k h => hK _ _ f k h) (Keep.refl (fun _ => False) w2) (fun _ _ h => h) (fun _ _ h => h) (fun _ _ h => h), h6⟩
/-- a continuation: the greatest there is -/
def ContT {A : Type} (O : Ops A) (w : World) (Q : Nat → Prop) (f : Nat) (k : Int → Tre A) : Prop :=
  ∃ K : World → (Nat → Prop) → Nat → (Int → Tre A) → Prop, (∀ w Q f k, K w Q f k → ContS O K w Q f k) ∧ K w Q f k
theorem ContT.unfold {A : Type} {O : Ops A} {w : World} {Q : Nat → Prop} {f : Nat} {k : Int → Tre A} (h : ContT O w Q f k) : ContS O (ContT O) w Q f k := by
  obtain ⟨K, h1, h2⟩ := h
  exact (h1 w Q f k h2).mono fun w Q f k h => ⟨K, h1, h⟩
theorem ContT.fold {A : Type} {O : Ops A} {w : World} {Q : Nat → Prop} {f : Nat} {k : Int → Tre A} (h : ContS O (ContT O) w Q f k) : ContT O w Q f k :=
  ⟨ContS O (ContT O), fun w Q f k h => h.mono fun w Q f k h => h.unfold, h⟩
theorem ContT.keep {A : Type} {O : Ops A} {w w1 : World} {Q Q' F : Nat → Prop} {f : Nat} {k : Int → Tre A} (h : ContT O w Q f k) (hk : Keep F w w1) (hd : ∀ b, Q b → ¬ F b) (hq : ∀ b, b < w.heap.size → Q b → Q' b) : ContT O w1 Q' f k := by
  refine ⟨fun w1 Q' f k => ∃ w Q F, ContT O w Q f k ∧ Keep F w w1 ∧ (∀ b, Q b → ¬ F b) ∧ ∀ b, b < w.heap.size → Q b → Q' b, ?_, w, Q, F, h, hk, hd, hq⟩
  rintro w1 Q' f k ⟨w, Q, F, h, hk, hd, hq⟩
  obtain ⟨h1, h2, h3⟩ := h.unfold
  have hs := hk.size
  refine ⟨hq f h2 h1, Nat.lt_of_lt_of_le h2 hs, fun v w2 hw => ?_⟩
  have hK : Keep (fun b => ¬ Q b) w w2 := ⟨hw.os.trans hk.os, hw.tape.trans hk.tape, hw.output.trans hk.output, Nat.le_trans hs hw.size, fun b hb hn => by
    have hQ : Q b := Classical.not_not.1 hn
    rw [hw.block b (by omega) (fun h => h (hq b hb hQ)), hk.block b hb (hd b hQ)]⟩
  refine (h3 v w2 hK).mono ?_
  rintro e w3 ⟨n, rfl, h4, h5, h6⟩
  have hqq : ∀ b, (Q b ∧ b < w.heap.size) ∨ w2.heap.size ≤ b → (Q' b ∧ b < w1.heap.size) ∨ w2.heap.size ≤ b := fun b hb => hb.imp (fun h => ⟨hq b h.2 h.1, by omega⟩) id
  refine ⟨n, rfl, h4, h5.keep (fun f k h => ⟨w3, _, fun _ => False, h, Keep.refl _ _, fun _ _ h => h, fun b _ h => hqq b h⟩) (Keep.refl (fun _ => False) w3) (fun _ _ h => h) (fun _ _ h => h) (fun b _ h => hqq b h), fun k e => hqq k (h6 k e)⟩
theorem ContT.own {A : Type} {O : Ops A} {w : World} {Q : Nat → Prop} {f : Nat} {k : Int → Tre A} (h : ContT O w Q f k) : Q f ∧ f < w.heap.size := ⟨h.unfold.1, h.unfold.2.1⟩
/-- a task, with all that is behind it -/
abbrev TaskF {A : Type} (O : Ops A) (w : World) (Q : Nat → Prop) (n : Option Addr) (T : Tre A) : Prop := TaskT O (ContT O w Q) w Q n T
theorem TaskF.keep {A : Type} {O : Ops A} {w w1 : World} {Q Q' F : Nat → Prop} {n : Option Addr} {T : Tre A} (h : TaskF O w Q n T) (hk : Keep F w w1) (hd : ∀ b, Q b → ¬ F b) (hn : InQ (fun k => ¬ F k) n) (hq : ∀ b, b < w.heap.size → Q b → Q' b) : TaskF O w1 Q' n T :=
  TaskT.keep h (fun _ _ h => h.keep hk hd hq) hk hd hn hq
theorem Behind.keep {A : Type} {O : Ops A} {w w1 : World} {Q Q' F : Nat → Prop} {fs : List Nat} {T R : Tre A} (h : Behind (ContT O w Q) fs T R) (hk : Keep F w w1) (hd : ∀ b, Q b → ¬ F b) (hq : ∀ b, b < w.heap.size → Q b → Q' b) : Behind (ContT O w1 Q') fs T R :=
  Behind.mono (fun _ _ h => h.keep hk hd hq) _ _ _ h
theorem TaskT.lt {A : Type} {O : Ops A} {K : Nat → (Int → Tre A) → Prop} {w : World} {Q : Nat → Prop} {k : Nat} {T : Tre A} (h : TaskT O K w Q (some ⟨k, 0, none⟩) T) : k < w.heap.size := by
  rcases h with ⟨v, e, h⟩ | ⟨x, κ, k', d, p, rest, fs, e, e2, h1, _⟩
  · rcases h with ⟨h, _⟩ | ⟨k', e2, h⟩
    · cases h
    · injection e2 with e2; injection e2 with e2; rw [e2]; exact h.lt
  · injection e2 with e2; injection e2 with e2; rw [e2]; exact h1.blk.lt
/-- calls that recover, of functions that may hand back none -/
theorem answerP_any (F : Nat) (caps : Array Value) (w : World) (R : Option Addr → World → Prop)
    (hcall : ∀ (W : World) (args : Array Value), (callFunc F args).run Tryz.prog W = .ok (.enter F args) W)
    (h : Calls Tryz.prog F caps w fun e w' => ∃ t, e = .returned (.pointer t) ∧ R t w') :
    Calls Tryz.prog 222 #[cloV F caps] w fun e w' => ∃ t, e = .returned (.pointer t) ∧ R t w' := by
  have HH := Lib.hid h
  clear h
  go_enter_defers Tryz.func222, Tryz.ntmps222
  go_wp2_with fail
  refine HH.out.mono ?_
  rintro e w1 ⟨v, rfl, hp⟩
  go_wp2_with fail
  refine leaves_cons (f := 290) (args := #[]) (by simp) (by simp [go_sem]) ?_
  refine (catchT_idle _).mono ?_
  rintro e u' w'' ⟨rfl, rfl, rfl⟩
  simp [Leaves, settle, results, Tryz.results222, go_sem]
  exact hp
theorem then11P_any (f bv G : Nat) (caps : Array Value) (v : Int) (w : World) (R : Option Addr → World → Prop) (hf : Blk w f 89 #[cloV G caps]) (hv : Blk w bv 3 #[.int .i64 v])
    (hcall : ∀ (W : World) (args : Array Value), (callFunc G args).run Tryz.prog W = .ok (.enter G args) W)
    (hG : Calls Tryz.prog G (#[.int .i64 v] ++ caps) w fun e w' => ∃ t, e = .returned (.pointer t) ∧ R t w') :
    Calls Tryz.prog 223 #[pV f, pV bv] w fun e w' => ∃ t, e = .returned (.pointer t) ∧ R t w' := by
  have c0 : w.cell? ⟨f, 0, none⟩ = some (cloV G caps) := hf.cell 0 _ rfl
  have c1 : w.cell? ⟨bv, 0, none⟩ = some (.int .i64 v) := hv.cell 0 _ rfl
  have HG := Lib.hid hG
  clear hG hf hv
  go_enter Tryz.func223, Tryz.ntmps223
  go_wp2_with fail
  refine HG.out.mono ?_
  rintro e w2 ⟨t, rfl, hR⟩
  go_wp2_with fail
  go_ret
  exact ⟨t, rfl, hR⟩
theorem then1P_any (f G : Nat) (caps : Array Value) (v : Int) (w : World) (R : Option Addr → World → Prop) (hf : Blk w f 89 #[cloV G caps])
    (hcall : ∀ (W : World) (args : Array Value), (callFunc G args).run Tryz.prog W = .ok (.enter G args) W)
    (hG : ∀ w1, Below w.heap.size w w1 → Calls Tryz.prog G (#[.int .i64 v] ++ caps) w1 fun e w' => ∃ t, e = .returned (.pointer t) ∧ R t w') :
    Calls Tryz.prog 221 #[.int .i64 v, pV f] w fun e w' => ∃ t, e = .returned (.pointer t) ∧ R t w' := by
  have hmf : ∀ (fn : Fn) (first cap : Array Value) (w : World), (Instr.makeFunc fn first cap).run Tryz.prog w = .ok (.func fn first cap) w := fun _ _ _ _ => rfl
  have HH := Lib.hid fun W hb hv => answerP_any 223 #[pV f, pV w.heap.size] W R call_then11 (then11P_any f w.heap.size G caps v W R (hf.below hb hf.lt) hv hcall (hG W hb))
  clear hG hf hcall
  go_enter Tryz.func221, Tryz.ntmps221
  go_upto_region 1 with fail
  generalize hW : (w.alloc _) = W
  have bW : Below w.heap.size w W := by rw [← hW]; go_grown
  have q0 : Blk W w.heap.size 3 #[.int .i64 v] := by rw [← hW]; exact Blk.new w _ _
  clear hW
  have HA := Lib.hid (HH.out W bW q0)
  go_wp2_with (go_at_call 222; refine HA.out.mono ?_; rintro e w2 ⟨t, rfl, hR⟩)
  go_ret
  exact ⟨t, rfl, hR⟩
/-- of a closure in a box -/
theorem contT_of {A : Type} (O : Ops A) (w : World) (Q : Nat → Prop) (f G : Nat) (caps : Array Value) (k : Int → Tre A) (hq : Q f) (hf : Blk w f 89 #[cloV G caps])
    (hcall : ∀ (W : World) (args : Array Value), (callFunc G args).run Tryz.prog W = .ok (.enter G args) W)
    (hG : ∀ v w1, Keep (fun b => ¬ Q b) w w1 → Calls Tryz.prog G (#[.int .i64 v] ++ caps) w1 fun e w' => ∃ t, e = .returned (.pointer t) ∧ Below w1.heap.size w1 w' ∧
      TaskF O w' (fun b => (Q b ∧ b < w.heap.size) ∨ w1.heap.size ≤ b) t (k v) ∧ InQ (fun b => (Q b ∧ b < w.heap.size) ∨ w1.heap.size ≤ b) t) : ContT O w Q f k := by
  refine ContT.fold ⟨hq, hf.lt, fun v w1 hw => ?_⟩
  refine then1P_any f G caps v w1 (fun t w' => Below w1.heap.size w1 w' ∧ TaskF O w' (fun b => (Q b ∧ b < w.heap.size) ∨ w1.heap.size ≤ b) t (k v) ∧ InQ (fun b => (Q b ∧ b < w.heap.size) ∨ w1.heap.size ≤ b) t) (hf.keep hw (fun h => h hq)) hcall fun w2 hb => ?_
  have hs := hb.size
  refine (hG v w2 (hw.step (Q' := fun _ => False) (Keep.ofBelow hb) (fun _ _ h => h.elim))).mono ?_
  rintro e w' ⟨t, rfl, h1, h2, h3⟩
  have hqq : ∀ b, (Q b ∧ b < w.heap.size) ∨ w2.heap.size ≤ b → (Q b ∧ b < w.heap.size) ∨ w1.heap.size ≤ b := fun b hb => hb.imp id (fun h => by omega)
  exact ⟨t, rfl, hb.trans (h1.mono hs), h2.keep (Keep.refl (fun _ => False) w') (fun _ _ h => h) (fun _ _ h => h) (fun b _ h => hqq b h), fun k e => hqq k (h3 k e)⟩
end Go.Proofs.YtldofbkjjmnooaaGreat
/- Package permit, for one goroutine alone: Take of a thread that has no permit leaves the world as it was. -/
namespace Go.Proofs.YtldofbkjjmnooaaGreat
open Go.ChangeShapes Go.WideShapes Go.ChangeAt Go.RowKit Go.Conc
set_option linter.unusedVariables false
set_option maxRecDepth 100000
set_option linter.unusedSimpArgs false
theorem ChanAt.apart {w : World} {a c : Nat} {t : TypeId} {xs : Array Value} {b : Bool} (h1 : ChanAt w c b) (h2 : Blk w a t xs) : c ≠ a := by
  rintro rfl
  obtain ⟨s, r, h⟩ := h1
  rw [show w.heap[c]? = _ from h2] at h
  cases h
theorem take_empty (P S : Nat) (cs : List Nat) (l : List Bool) (t : Nat) (w : World) (hP : PermitsAt w P S cs l) (hb : l[t]? = some false) :
    Calls Tryz.prog 279 #[permitsV P, .int .i64 t] w fun e w' => e = .returned (.bool false) ∧ w = w' := by
  obtain ⟨c, hc⟩ := chan_for hP hb
  have ho := of_any P S cs l t c w hP hc
  obtain ⟨s, r, hch⟩ := hP.chan t c false hc hb
  refine calls_of_loneTo fun cs' => ?_
  have e : Frame.enter Tryz.prog 279 #[permitsV P, .int .i64 t] .normal = (base 279).at ⟨#[permitsV P, .int .i64 t] ++ Array.replicate (Tryz.f279.ntmps - 2) undef, []⟩ [.code (Tryz.f279.body.getD .skip)] := by
    rw [enter_at _ Tryz.func279 rfl]; rfl
  rw [e]
  refine LoneTo.goes (n := 60) ?_
  simp only [Tryz.f279, Option.getD_some]
  walk_nrm
  repeat (first | s_c stepG_seq | s_c stepG_region_end | s_c stepG_skip | s_c stepG_block | s_c stepG_inBlock | s_reg | s_op)
  s_stop
  refine LoneTo.call (f := 145) (fn := Tryz.f145) rfl rfl (by decide) rfl Tryz.func145 (by kernel_rfl) (by kernel_rfl) ?_ ho ?_
  · walk_nrm
  rintro e1 w1 ⟨rfl, rfl⟩
  refine ⟨_, rfl, ?_⟩
  walk_nrm
  refine LoneTo.goes (n := 60) ?_
  repeat (first | s_c stepG_seq | s_c stepG_region_end | s_c stepG_skip | s_c stepG_block | s_c stepG_inBlock | s_reg | s_op)
  s_stop
  have hcomm : (execOp (Act.eval ⟨#[permitsV P, .int .i64 t, undef, undef, .bool false, permitsV P, .int .i64 t, .chan (some c), undef, undef, undef], []⟩)
      { dst := some 8, op := Op.select #[{ chan := Operand.tmp 7, send := none, elem := 68 }] false, type := 0, pos := "permit.go:59", after := #[], guard := none }).run Tryz.prog w = .ok (.comm #[rcase c tokV] false .select) w := by
    simp [go_sem, execOp, rcase, rcaseNil, Act.eval]
  refine LoneTo.step (step_lone_select_default (c := c) (cap := 1) (s := s) (r := r) (tm := false) (stepG_comm rfl rfl (by decide) hcomm) hch) ?_
  rw [Frame.finish_at]
  walk_nrm
  refine LoneTo.goes (n := 60) ?_
  repeat (first | s_c stepG_seq | s_c stepG_region_end | s_c stepG_skip | s_c stepG_block | s_c stepG_inBlock | s_reg | s_op)
  s_cond false
  repeat (first | s_c stepG_seq | s_c stepG_region_end | s_c stepG_skip | s_c stepG_block | s_c stepG_inBlock | s_reg | s_op)
  s_c stepG_ret'
  s_stop
  refine LoneTo.done ⟨.returned (.bool false), _, rfl, ⟨rfl, ?_⟩, rfl, rfl, rfl, rfl, _, Tryz.func279, by simp [results, Tryz.results279, Frame.at]⟩
  rfl
end Go.Proofs.YtldofbkjjmnooaaGreat
