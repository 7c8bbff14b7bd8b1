/- Layer 6's law: world. -/
import Derived.Test.YtmkgbbbhmbejnaaTaskFew
import Derived.Test.YtmkgbbbhmbejnaaCellsD
import Derived.Test.YtmkgbbbhmbejnaaCellsE
import Derived.Test.YtmkgbbbhmbejnaaPermB
import Derived.Test.YtmkgbbbhmbejnaaPermC
namespace Go.Proofs.Ytmkgbbbhmbejnaa
open Go.ChangeShapes Go.WideShapes Go.ChangeAt Go.RowKit
set_option linter.unusedVariables false
set_option maxRecDepth 100000
set_option linter.unusedSimpArgs false
theorem Blk.apart {w : World} {a b : Nat} {t u : TypeId} {xs ys : Array Value} (h1 : Blk w a t xs) (h2 : Blk w b u ys) (ht : t ≠ u) : a ≠ b := by
  rintro rfl
  have h3 : w.heap[a]? = some (.cells ys u (0, 0)) := h2
  rw [show w.heap[a]? = _ from h1] at h3
  have := Option.some.inj h3
  simp at this
  exact ht this.2
theorem ChanAt.apart {w : World} {a c : Nat} {t : TypeId} {xs : Array Value} {b : Bool} (h1 : ChanAt w c b) (h2 : Blk w a t xs) : c ≠ a := by
  rintro rfl
  obtain ⟨s, r, h⟩ := h1
  rw [show w.heap[c]? = _ from h2] at h
  cases h
/-- the blocks of cells, of permits, and of the document's world -/
structure Ids where
  C : Nat
  S : Nat
  P : Nat
  R : Nat
  cs : List Nat
  D : Nat
  W : Nat
  V : Nat
structure Setup (w : World) (c : Ids) (l m : List Int) (ps qs : List Bool) (k n : Int) : Prop where
  cells : CellsAt w c.C c.S l k
  perms : PermitsAt w c.P c.R c.cs ps
  ref : RWorld w c.D c.W c.V m qs n
  apart : c.S ≠ c.W
theorem Setup.keep {w w1 : World} {c : Ids} {l m : List Int} {ps qs : List Bool} {k n : Int} {Q : Nat → Prop} (h : Setup w c l m ps qs k n) (hk : Keep Q w w1)
    (h1 : ¬ Q c.C) (h2 : ¬ Q c.S) (h3 : ¬ Q c.P) (h4 : ¬ Q c.R) (h5 : ∀ x ∈ c.cs, ¬ Q x) (h6 : ¬ Q c.D) (h7 : ¬ Q c.W) (h8 : ¬ Q c.V) : Setup w1 c l m ps qs k n :=
  ⟨h.cells.keep hk h1 h2, h.perms.keep hk h3 h4 h5, h.ref.keep hk h6 h7 h8, h.apart⟩
theorem Setup.still {w w1 : World} {c : Ids} {l m : List Int} {ps qs : List Bool} {k n : Int} (h : Setup w c l m ps qs k n) (hk : Keep (fun _ => False) w w1) : Setup w1 c l m ps qs k n :=
  h.keep hk (fun h => h) (fun h => h) (fun h => h) (fun h => h) (fun _ _ h => h) (fun h => h) (fun h => h) (fun h => h)
/-- what is another's stays: an operation of the cells -/
theorem Setup.ofCells {w w1 : World} {c : Ids} {l l' m : List Int} {ps qs : List Bool} {k k' n : Int} (h : Setup w c l m ps qs k n) (hk : Keep (ofCells c.C c.S) w w1) (hC : CellsAt w1 c.C c.S l' k') : Setup w1 c l' m ps qs k' n := by
  obtain ⟨cap, ho⟩ := h.ref.own
  obtain ⟨cur, hc, ht⟩ := h.ref.cells
  refine ⟨hC, h.perms.keep hk ?_ ?_ ?_, h.ref.keep hk ?_ ?_ ?_, h.apart⟩
  · rintro (e | e)
    · exact h.perms.own.apart h.cells.own (by decide) e
    · exact h.perms.own.apart h.cells.row (by decide) e
  · rintro (e | e)
    · exact h.perms.row.apart h.cells.own (by decide) e
    · exact h.perms.row.apart h.cells.row (by decide) e
  · intro x hx
    obtain ⟨i, hi⟩ := List.mem_iff_getElem?.1 hx
    have hlt := (List.getElem?_eq_some_iff.1 hi).1
    have hch := h.perms.chan i x (ps[i]'(by rw [← h.perms.len]; exact hlt)) hi (by simp)
    rintro (e | e)
    · exact hch.apart h.cells.own e
    · exact hch.apart h.cells.row e
  · rintro (e | e)
    · exact ho.apart h.cells.own (by decide) e
    · exact ho.apart h.cells.row (by decide) e
  · rintro (e | e)
    · exact hc.apart h.cells.own (by decide) e
    · exact h.apart e.symm
  · rintro (e | e)
    · exact h.ref.perms.apart h.cells.own (by decide) e
    · exact h.ref.perms.apart h.cells.row (by decide) e
/-- .. of the permits -/
theorem Setup.ofPerms {w w1 : World} {c : Ids} {l m : List Int} {ps ps' qs : List Bool} {k n : Int} (h : Setup w c l m ps qs k n) (hk : Keep (fun b => b ∈ c.cs) w w1) (hP : PermitsAt w1 c.P c.R c.cs ps') : Setup w1 c l m ps' qs k n := by
  obtain ⟨cap, ho⟩ := h.ref.own
  obtain ⟨cur, hc, ht⟩ := h.ref.cells
  have key : ∀ {b : Nat} {t : TypeId} {xs : Array Value}, Blk w b t xs → ¬ b ∈ c.cs := fun hb hx => by
    obtain ⟨i, hi⟩ := List.mem_iff_getElem?.1 hx
    have hlt := (List.getElem?_eq_some_iff.1 hi).1
    exact (h.perms.chan i _ (ps[i]'(by rw [← h.perms.len]; exact hlt)) hi (by simp)).apart hb rfl
  exact ⟨h.cells.keep hk (key h.cells.own) (key h.cells.row), hP, h.ref.keep hk (key ho) (key hc) (key h.ref.perms), h.apart⟩
/-- .. of the document's world -/
theorem Setup.ofRef {w w1 : World} {c : Ids} {l m m' : List Int} {ps qs qs' : List Bool} {k n n' : Int} (h : Setup w c l m ps qs k n) {Q : Nat → Prop} (hk : Keep Q w w1) (hQ : ∀ b, Q b → b = c.D ∨ b = c.W ∨ b = c.V ∨ w.heap.size ≤ b) (hR : RWorld w1 c.D c.W c.V m' qs' n') : Setup w1 c l m' ps qs' k n' := by
  obtain ⟨cap, ho⟩ := h.ref.own
  obtain ⟨cur, hc, ht⟩ := h.ref.cells
  have kc : ∀ x ∈ c.cs, ¬ Q x := fun x hx hq => by
    obtain ⟨i, hi⟩ := List.mem_iff_getElem?.1 hx
    have hlt := (List.getElem?_eq_some_iff.1 hi).1
    have hch := h.perms.chan i x (ps[i]'(by rw [← h.perms.len]; exact hlt)) hi (by simp)
    rcases hQ x hq with e | e | e | e
    · exact hch.apart ho e
    · exact hch.apart hc e
    · exact hch.apart h.ref.perms e
    · obtain ⟨s, r, hx2⟩ := hch
      have := (Array.getElem?_eq_some_iff.1 hx2).1
      omega
  have kb : ∀ {b : Nat} {t : TypeId} {xs : Array Value}, Blk w b t xs → t ≠ 68 → t ≠ 3 → (b = c.W → False) → ¬ Q b := fun hb h1 h2 h3 hq => by
    rcases hQ _ hq with e | e | e | e
    · exact hb.apart ho h1 e
    · exact h3 e
    · exact hb.apart h.ref.perms h2 e
    · have := hb.lt; omega
  exact ⟨h.cells.keep hk (kb h.cells.own (by decide) (by decide) (fun e => h.cells.own.apart hc (by decide) e)) (kb h.cells.row (by decide) (by decide) h.apart),
    h.perms.keep hk (kb h.perms.own (by decide) (by decide) (fun e => h.perms.own.apart hc (by decide) e)) (kb h.perms.row (by decide) (by decide) (fun e => h.perms.row.apart hc (by decide) e)) kc, hR, h.apart⟩
theorem Setup.lt {w : World} {c : Ids} {l m : List Int} {ps qs : List Bool} {k n : Int} (h : Setup w c l m ps qs k n) (b : Nat) (hb : (b = c.C ∨ b = c.S ∨ b = c.P ∨ b = c.R ∨ b ∈ c.cs ∨ b = c.D ∨ b = c.W ∨ b = c.V)) : b < w.heap.size := by
  obtain ⟨cap, ho⟩ := h.ref.own
  obtain ⟨cur, hc, ht⟩ := h.ref.cells
  rcases hb with rfl | rfl | rfl | rfl | hb | rfl | rfl | rfl
  · exact h.cells.own.lt
  · exact h.cells.row.lt
  · exact h.perms.own.lt
  · exact h.perms.row.lt
  · obtain ⟨i, hi⟩ := List.mem_iff_getElem?.1 hb
    have hlt := (List.getElem?_eq_some_iff.1 hi).1
    obtain ⟨s, r, hx⟩ := h.perms.chan i b (ps[i]'(by rw [← h.perms.len]; exact hlt)) hi (by simp)
    exact (Array.getElem?_eq_some_iff.1 hx).1
  · exact ho.lt
  · exact hc.lt
  · exact h.ref.perms.lt
/-- cells so far: the first k given, zeros behind -/
def soFar (M : List Int) (k : Nat) : List Int := M.take k ++ List.replicate (M.length - k) 0
theorem soFar_len {M : List Int} {k : Nat} (h : k ≤ M.length) : (soFar M k).length = M.length := by simp [soFar]; omega
theorem soFar_at {M : List Int} {k : Nat} (h : k < M.length) : (soFar M k)[k]? = some 0 := by
  obtain ⟨j, hj⟩ : ∃ j, M.length = k + (j + 1) := ⟨M.length - k - 1, by omega⟩
  have hk : (M.take k).length = k := by rw [List.length_take]; omega
  rw [soFar, List.getElem?_append_right (by omega), hk, hj]
  simp [List.replicate_succ]
theorem soFar_set {M : List Int} {k : Nat} {x : Int} (h : M[k]? = some x) : (soFar M k).set k x = soFar M (k + 1) := by
  have hlt := (List.getElem?_eq_some_iff.1 h).1
  obtain ⟨j, hj⟩ : ∃ j, M.length = k + (j + 1) := ⟨M.length - k - 1, by omega⟩
  have hk : (M.take k).length = k := by rw [List.length_take]; omega
  rw [soFar, soFar, List.set_append_right _ _ (by omega), hk, hj, take_at h, Nat.add_sub_cancel_left, show k + (j + 1) - (k + 1) = j by omega]
  simp [List.replicate_succ]
theorem soFar_all {M : List Int} : soFar M M.length = M := by simp [soFar]
/-- permits so far -/
def permsSo (H : List Bool) (k : Nat) : List Bool := H.take k ++ List.replicate (H.length - k) false
theorem permsSo_at {M : List Bool} {k : Nat} (h : k < M.length) : (permsSo M k)[k]? = some false := by
  obtain ⟨j, hj⟩ : ∃ j, M.length = k + (j + 1) := ⟨M.length - k - 1, by omega⟩
  have hk : (M.take k).length = k := by rw [List.length_take]; omega
  rw [permsSo, List.getElem?_append_right (by omega), hk, hj]
  simp [List.replicate_succ]
theorem permsSo_set {M : List Bool} {k : Nat} {x : Bool} (h : M[k]? = some x) : (permsSo M k).set k x = permsSo M (k + 1) := by
  have hlt := (List.getElem?_eq_some_iff.1 h).1
  obtain ⟨j, hj⟩ : ∃ j, M.length = k + (j + 1) := ⟨M.length - k - 1, by omega⟩
  have hk : (M.take k).length = k := by rw [List.length_take]; omega
  rw [permsSo, permsSo, List.set_append_right _ _ (by omega), hk, hj, take_at h, Nat.add_sub_cancel_left, show k + (j + 1) - (k + 1) = j by omega]
  simp [List.replicate_succ]
theorem permsSo_all {M : List Bool} : permsSo M M.length = M := by simp [permsSo]
theorem int_info : (Try.prog.info? 3).map (fun i => (i.zero, i.size, i.bytes)) = some (some (.int .i64 0), 1, 8) := by kernel_rfl
theorem make_ints (w : World) : (Instr.makeSlice 66 (.int .i64 3) (.int .i64 3)).run Try.prog w = .ok (.slice (some ⟨w.heap.size, 0, none⟩) 3 3) (w.alloc (.cells (permV [false, false, false]) 3)) := by
  obtain ⟨i, hi, hz0, hz1, hz2⟩ := info_parts int_info
  have h := run_make (P := Try.prog) w 66 3 i _ Try.underlying66 hi hz0 .i64 .i64 3 3 (by omega) (by omega) (by rw [hz2]; omega) (by omega)
  have e : madeCells #[Value.int .i64 0] 3 = permV [false, false, false] := by
    rw [← Array.toList_inj, toList_madeCells_one]
    simp [permV, List.replicate_succ]
  rw [h, hz1, Nat.mul_one]
  simp only [← e]
  rfl
theorem ownsRow_keepQ {w w' : World} {B size n : Nat} {e : TypeId} {v : Value} {xs : List Value} {Q : Nat → Prop} (h : w.ownsRow B e size v n xs) (hk : Keep Q w w') (hQ : ∀ g, B ≤ g → ¬ Q g) : w'.ownsRow B e size v n xs := by
  refine ⟨h.1, ?_⟩
  rcases h.2 with h | ⟨g, cap, cur, hv, hg, hh, r⟩
  · exact .inl h
  · exact .inr ⟨g, cap, cur, hv, hg, (hk.block g (Array.getElem?_eq_some_iff.1 hh).1 (hQ g hg)).trans hh, r⟩
theorem row_slice {w : World} {B size n : Nat} {e : TypeId} {v : Value} {xs : List Value} (h : w.ownsRow B e size v n xs) (hn : 0 < n) : ∃ g cap, v = .slice (some ⟨g, 0, none⟩) n cap := by
  rcases h.2 with ⟨_, h0⟩ | ⟨g, cap, cur, hv, _⟩
  · omega
  · exact ⟨g, cap, hv⟩
/-- where world has got to -/
structure WInv (w wr : World) (c : Ids) (B : Nat) (M : List Int) (H : List Bool) (k t : Nat) : Prop where
  f : Blk wr w.heap.size 41 (M.map (Value.int .u16)).toArray
  b : Blk wr (w.heap.size + 1) 42 (H.map Value.bool).toArray
  cells : CellsAt wr c.C c.S (soFar M k) k
  perms : PermitsAt wr c.P c.R c.cs (permsSo H t)
  own : ∃ v, Blk wr c.D 68 #[v, .int .i64 0, .slice (some ⟨c.V, 0, none⟩) 3 3] ∧ wr.ownsRow B 22 1 v k ((M.take k).map (Value.int .u64))
  V : Blk wr c.V 3 (permV (permsSo H t))
  below : Below w.heap.size w wr
  lt : c.C < B ∧ c.S < B ∧ (∀ x ∈ c.cs, x < B) ∧ c.D < B ∧ c.V < B ∧ w.heap.size + 1 < B ∧ w.heap.size ≤ c.C ∧ w.heap.size ≤ c.S ∧ (∀ x ∈ c.cs, w.heap.size ≤ x) ∧ w.heap.size ≤ c.D ∧ w.heap.size ≤ c.V ∧ c.P < B ∧ c.R < B ∧ w.heap.size ≤ c.P ∧ w.heap.size ≤ c.R
  size : B ≤ wr.heap.size
theorem WInv.chan {w wr : World} {c : Ids} {B : Nat} {M : List Int} {H : List Bool} {k t : Nat} (h : WInv w wr c B M H k t) {b : Nat} {ty : TypeId} {xs : Array Value} (hb : Blk wr b ty xs) : ¬ b ∈ c.cs := fun hx => by
  obtain ⟨i, hi⟩ := List.mem_iff_getElem?.1 hx
  have hlt := (List.getElem?_eq_some_iff.1 hi).1
  exact (h.perms.chan i _ ((permsSo H t)[i]'(by rw [← h.perms.len]; exact hlt)) hi (by simp)).apart hb rfl
theorem WInv.put {w wr w1 : World} {c : Ids} {B : Nat} {M : List Int} {H : List Bool} {k t : Nat} (h : WInv w wr c B M H k t) {x : Int} (hx : M[k]? = some x) (hk : Keep (ofCells c.C c.S) wr w1) (hC : CellsAt w1 c.C c.S ((soFar M k).set k x) (k + 1)) :
    CellsAt w1 c.C c.S (soFar M (k + 1)) ((k + 1 : Nat) : Int) ∧ Blk w1 w.heap.size 41 (M.map (Value.int .u16)).toArray ∧ Blk w1 (w.heap.size + 1) 42 (H.map Value.bool).toArray ∧ PermitsAt w1 c.P c.R c.cs (permsSo H t) ∧
      (∃ v, Blk w1 c.D 68 #[v, .int .i64 0, .slice (some ⟨c.V, 0, none⟩) 3 3] ∧ w1.ownsRow B 22 1 v k ((M.take k).map (Value.int .u64))) ∧ Blk w1 c.V 3 (permV (permsSo H t)) ∧ Below w.heap.size w w1 ∧ B ≤ w1.heap.size := by
  obtain ⟨v, hD, hrow⟩ := h.own
  have key : ∀ {b : Nat} {ty : TypeId} {xs : Array Value}, Blk wr b ty xs → ty ≠ 104 → ty ≠ 22 → ¬ ofCells c.C c.S b := fun hb h1 h2 hq => by
    rcases hq with e | e
    · exact hb.apart h.cells.own h1 e
    · exact hb.apart h.cells.row h2 e
  refine ⟨by rw [soFar_set hx] at hC; simpa using hC, h.f.keep hk (key h.f (by decide) (by decide)), h.b.keep hk (key h.b (by decide) (by decide)),
    h.perms.keep hk (key h.perms.own (by decide) (by decide)) (key h.perms.row (by decide) (by decide)) (fun y hy hq => ?_), ⟨v, hD.keep hk (key hD (by decide) (by decide)), ownsRow_keepQ hrow hk (fun g hg hq => ?_)⟩, h.V.keep hk (key h.V (by decide) (by decide)),
    h.below.trans (hk.below h.below.size (fun i _ hq => ?_)), Nat.le_trans h.size hk.size⟩
  · rcases hq with rfl | rfl
    · exact h.chan h.cells.own hy
    · exact h.chan h.cells.row hy
  · have := h.lt
    rcases hq with e | e <;> omega
  · have := h.lt
    rcases hq with e | e <;> omega
set_option maxHeartbeats 4000000 in
theorem world_any (f0 f1 f2 f3 : Int) (b0 b1 b2 : Bool) (w : World) (hf : (0 ≤ f0 ∧ f0 ≤ 65535) ∧ (0 ≤ f1 ∧ f1 ≤ 65535) ∧ (0 ≤ f2 ∧ f2 ≤ 65535) ∧ (0 ≤ f3 ∧ f3 ≤ 65535)) :
    Calls Try.prog 19 #[.agg #[.int .u16 f0, .int .u16 f1, .int .u16 f2, .int .u16 f3], .agg #[.bool b0, .bool b1, .bool b2]] w fun e w' => ∃ c : Ids, e = .returned (.tuple #[cellsV c.C, permitsV c.P, ptrV c.D]) ∧
      Setup w' c [f0, f1, f2, f3] [f0, f1, f2, f3] [b0, b1, b2] [b0, b1, b2] 4 0 ∧ Below w.heap.size w w' ∧ ∀ b, (b = c.C ∨ b = c.S ∨ b = c.P ∨ b = c.R ∨ b ∈ c.cs ∨ b = c.D ∨ b = c.W ∨ b = c.V) → w.heap.size ≤ b := by
  have hmk := make_ints
  obtain ⟨u0, hu, hu0, hu1, hu2⟩ := info_parts u64_info
  obtain ⟨M, hM⟩ : ∃ M, M = [f0, f1, f2, f3] := ⟨_, rfl⟩
  obtain ⟨H, hH⟩ : ∃ H, H = [b0, b1, b2] := ⟨_, rfl⟩
  have hMl : M.length = 4 := by rw [hM]; rfl
  have hHl : H.length = 3 := by rw [hH]; rfl
  have HF : Hid (∀ (i : Nat) (x : Int), M[i]? = some x → 0 ≤ x ∧ x ≤ 65535) := Lib.hid (by
    intro i x hx
    rw [hM] at hx
    rcases i with _ | _ | _ | _ | i <;> simp at hx <;> subst hx <;> omega)
  have HFB : Hid (Blk ((w.alloc (.cells #[.int .u16 f0, .int .u16 f1, .int .u16 f2, .int .u16 f3] 41)).alloc (.cells #[.bool b0, .bool b1, .bool b2] 42)) w.heap.size 41 (M.map (Value.int .u16)).toArray) := Lib.hid (by rw [hM]; exact (Blk.new _ _ _).alloc _)
  have HBB : Hid (Blk ((w.alloc (.cells #[.int .u16 f0, .int .u16 f1, .int .u16 f2, .int .u16 f3] 41)).alloc (.cells #[.bool b0, .bool b1, .bool b2] 42)) (w.heap.size + 1) 42 (H.map Value.bool).toArray) := Lib.hid (by rw [hH]; exact blk_two _ _ _ _)
  have hB0 : Below w.heap.size w ((w.alloc (.cells #[.int .u16 f0, .int .u16 f1, .int .u16 f2, .int .u16 f3] 41)).alloc (.cells #[.bool b0, .bool b1, .bool b2] 42)) := ((Below.refl _ w).alloc (Nat.le_refl _) _).alloc (by simp) _
  have hsz : ((w.alloc (.cells #[.int .u16 f0, .int .u16 f1, .int .u16 f2, .int .u16 f3] 41)).alloc (.cells #[.bool b0, .bool b1, .bool b2] 42)).heap.size = w.heap.size + 2 := by simp
  rw [← hM, ← hH]
  go_enter Try.func19, Try.ntmps19
  go_upto_region 1 with fail
  clear hM hH hf
  generalize (w.alloc (.cells #[.int .u16 f0, .int .u16 f1, .int .u16 f2, .int .u16 f3] 41)).alloc (.cells #[.bool b0, .bool b1, .bool b2] 42) = W0 at *
  have h4 := Lib.hid (new_some 4 W0 (by omega))
  have h3 := Lib.hid fun W => pnew_some 3 W (by omega) (by omega)
  rw [show ((4 : Nat) : Int) = 4 from rfl] at h4
  rw [show ((3 : Nat) : Int) = 3 from rfl] at h3
  go_upto_region 2 with (first
    | (go_at_call 35; refine h4.out.mono ?_; rintro e w1 ⟨rfl, hC, kb⟩)
    | (go_at_call 39; refine (h3.out _).mono ?_; rintro e w2 ⟨rfl, ⟨cs, hP, hcs⟩, kb2⟩))
  rw [hsz] at hC kb
  have hs1 := kb.size
  have hs2 := kb2.size
  rw [hsz] at hs1
  have h4' := hMl
  have I0 : WInv w ((w2.alloc (.cells (permV [false, false, false]) 3)).alloc (.cells #[.slice none 0 0, .int .i64 0, .slice (some ⟨w2.heap.size, 0, none⟩) 3 3] 68))
      ⟨w.heap.size + 2 + 1, w.heap.size + 2, w1.heap.size + 1, w1.heap.size, cs, w2.heap.size + 1, 0, w2.heap.size⟩ (w2.heap.size + 2) M H 0 0 := by
    have kk : Keep (fun _ => False) w2 ((w2.alloc (.cells (permV [false, false, false]) 3)).alloc (.cells #[.slice none 0 0, .int .i64 0, .slice (some ⟨w2.heap.size, 0, none⟩) 3 3] 68)) := ((Keep.refl _ _).alloc _).alloc _
    have e1 : soFar M 0 = List.replicate 4 0 := by simp [soFar, hMl]
    have e2 : permsSo H 0 = List.replicate 3 false := by simp [permsSo, hHl]
    have hcl : ∀ x ∈ cs, x < w2.heap.size := fun x hx => by
      obtain ⟨i, hi⟩ := List.mem_iff_getElem?.1 hx
      have hlt := (List.getElem?_eq_some_iff.1 hi).1
      obtain ⟨s, r, hz⟩ := hP.chan i x ((List.replicate 3 false)[i]'(by rw [← hP.len]; exact hlt)) hi (by simp)
      exact (Array.getElem?_eq_some_iff.1 hz).1
    refine ⟨((HFB.out.below kb (by omega)).below kb2 (by omega)).keep kk (fun h => h), ((HBB.out.below kb (by omega)).below kb2 (by omega)).keep kk (fun h => h), ?_, ?_, ⟨_, blk_two _ _ _ _, World.ownsRow_nil _ _ _ _⟩, ?_, ?_, ?_, ?_⟩
    · rw [e1]
      exact (hC.keep (Keep.ofBelow (Q := fun _ => False) kb2) (fun h => h) (fun h => h)).keep kk (fun h => h) (fun h => h)
    · rw [e2]
      exact hP.keep kk (fun h => h) (fun h => h) (fun _ _ h => h)
    · rw [e2]
      exact (Blk.new _ _ _).alloc _
    · exact (((hB0.trans (kb.mono (by omega))).trans (kb2.mono (by omega))).alloc (by omega) _).alloc (by simp; omega) _
    · exact ⟨by show _ + 2 + 1 < _; omega, by show _ + 2 < _; omega, fun x hx => by have := hcl x hx; omega, by show _ + 1 < _ + 2; omega, by show w2.heap.size < _ + 2; omega, by omega, by show _ ≤ _ + 2 + 1; omega, by show _ ≤ _ + 2; omega, fun x hx => by have := hcs x hx; omega, by show _ ≤ _ + 1; omega, by show _ ≤ w2.heap.size; omega, by show w1.heap.size + 1 < _; have := hP.own.lt; omega, by show w1.heap.size < _; omega, by show _ ≤ w1.heap.size + 1; omega, by show _ ≤ w1.heap.size; omega⟩
    · simp
  clear hC hP hcs kb kb2 h4 h3 HFB HBB hB0
  go_wp2
  generalize (w2.alloc (.cells (permV [false, false, false]) 3)).alloc (.cells #[.slice none 0 0, .int .i64 0, .slice (some ⟨w2.heap.size, 0, none⟩) 3 3] 68) = W3 at *
  clear hs1 hs2 hmk
  generalize hCn : w.heap.size + 2 + 1 = Cn at *
  generalize hSn : w.heap.size + 2 = Sn at *
  generalize hPn : w1.heap.size + 1 = Pn at *
  generalize hRn : w1.heap.size = Rn at *
  generalize hDn : w2.heap.size + 1 = Dn at *
  generalize hBn : w2.heap.size + 2 = Bn at *
  generalize hVn : w2.heap.size = Vn at *
  clear hCn hSn hPn hRn hDn hBn hVn hsz
  go_loopw [10] (fun i wr => ∃ k : Nat, k ≤ 4 ∧ i = .int .i64 k ∧ WInv w wr ⟨Cn, Sn, Pn, Rn, cs, Dn, 0, Vn⟩ Bn M H k 0) (fun i wr => 4 - (intOf i).toNat)
  case atStart => exact ⟨0, by omega, rfl, I0⟩
  case round =>
    obtain ⟨k, hk, rfl, hI⟩ := hrel
    clear I0
    by_cases hlt : k < 4
    · obtain ⟨x, hx⟩ : ∃ x, M[k]? = some x := ⟨M[k]'(by omega), by simp⟩
      have hxb := HF.out k x hx
      have f0 := hI.f.cell k (.int .u16 x) (by simp [hx])
      have hst := Lib.hid (store_yes Cn Sn (soFar M k) k k 0 x wr hI.cells (soFar_at (by omega)) (by omega) (by omega))
      have hcv : IntKind.u64.wrap x = x := by rw [IntKind.wrap_u64]; omega
      have HI := Lib.hid hI
      have HX := Lib.hid hx
      clear hI hx
      have i0 : 0 ≤ (k : Int) ∧ (k : Int) < 4 := by omega
      go_upto_region 7 with (go_at_call 36; refine hst.out.mono ?_; rintro e w4 ⟨rfl, hC, kC⟩)
      obtain ⟨g1, g2, g3, g4, ⟨v, hD, hrow⟩, g6, g7, g8⟩ := HI.out.put HX.out kC hC
      have HL := Lib.hid HI.out.lt
      clear hst HI kC hC f0
      dsimp only at g1 g4 g6 hD
      have c0 : w4.cell? ⟨Dn, 0, none⟩ = some v := hD.cell 0 _ rfl
      have hlt5 := HL.out
      dsimp only at hlt5
      have nD : w.heap.size ≠ Dn := g2.apart hD (by decide)
      have nD1 : w.heap.size + 1 ≠ Dn := g3.apart hD (by decide)
      have nC : Cn ≠ Dn := g1.own.apart hD (by decide)
      have nS : Sn ≠ Dn := g1.row.apart hD (by decide)
      have nP : Pn ≠ Dn := g4.own.apart hD (by decide)
      have nR : Rn ≠ Dn := g4.row.apart hD (by decide)
      have nV : Vn ≠ Dn := g6.apart hD (by decide)
      have pP := g4.own.lt
      have pR := g4.row.lt
      have nX : ∀ y ∈ cs, ¬ (y = Dn ∨ Bn ≤ y) := fun y hy => by
        obtain ⟨i, hi⟩ := List.mem_iff_getElem?.1 hy
        have hlt := (List.getElem?_eq_some_iff.1 hi).1
        have := (g4.chan i y ((permsSo H 0)[i]'(by rw [← g4.len]; exact hlt)) hi (by simp)).apart hD
        have := hlt5.2.2.1 y hy
        omega
      have sK : ∀ W, Keep (fun b => b = Dn ∨ Bn ≤ b) w4 W → (fun w' => w'.cell? ⟨w.heap.size, k, none⟩ = some (.int .u16 x)) W := fun W hk => (g2.keep hk (by omega)).cell k (.int .u16 x) (by simp [HX.out])
      have kI : Keep (fun b => b = Dn ∨ Bn ≤ b) w4 w4 := Keep.refl _ _
      refine wp_region_held_drew (S := (fun w' => w'.cell? ⟨w.heap.size, k, none⟩ = some (.int .u16 x))) (by kernel_rfl) (sK _ kI.drew) (fun hHeld => ?_)
      refine wpAnyH_take (i := 0) (oi := _) (v := ?_) rfl (by kernel_rfl) (by kernel_rfl) (by kernel_rfl) (fun _ _ _ h => h) (Or.inl ⟨by rfl, ?_⟩) (by assumption) ?_
      rotate_left
      · intro w hSw; (try dsimp only at hSw); go_simp; try with_reducible rfl
      (try simp only [Act.put, List.setIfInBounds_toArray, List.set_cons_zero, List.set_cons_succ])
      refine wpAnyH_take (i := 1) (oi := _) (v := ?_) rfl (by kernel_rfl) (by kernel_rfl) (by kernel_rfl) (fun _ _ _ h => h) (Or.inl ⟨by rfl, ?_⟩) (by assumption) ?_
      rotate_left
      · intro w hSw; (try dsimp only at hSw); go_simp; try with_reducible rfl
      (try simp only [Act.put, List.setIfInBounds_toArray, List.set_cons_zero, List.set_cons_succ])
      refine wpAnyH_take (i := 2) (oi := _) (v := ?_) rfl (by kernel_rfl) (by kernel_rfl) (by kernel_rfl) (fun _ _ _ h => h) (Or.inl ⟨by rfl, ?_⟩) (by assumption) ?_
      rotate_left
      · intro w hSw; (try dsimp only at hSw); go_simp; try with_reducible rfl
      (try simp only [Act.put, List.setIfInBounds_toArray, List.set_cons_zero, List.set_cons_succ])
      refine wpAnyH_take (i := 3) (oi := _) (v := ?_) rfl (by kernel_rfl) (by kernel_rfl) (by kernel_rfl) (fun _ _ _ h => h) (Or.inl ⟨by rfl, ?_⟩) (by assumption) ?_
      rotate_left
      · intro w hSw; (try dsimp only at hSw); go_simp; try with_reducible rfl
      (try simp only [Act.put, List.setIfInBounds_toArray, List.set_cons_zero, List.set_cons_succ])
      refine wpAnyH_take (i := 5) (oi := _) (v := ?_) rfl (by kernel_rfl) (by kernel_rfl) (by kernel_rfl) (fun _ _ _ h => h) (Or.inl ⟨by rfl, ?_⟩) (by assumption) ?_
      rotate_left
      · intro w hSw; (try dsimp only at hSw); go_simp; try with_reducible rfl
      (try simp only [Act.put, List.setIfInBounds_toArray, List.set_cons_zero, List.set_cons_succ])
      refine wpAnyH_take (i := 6) (oi := _) (v := ?_) rfl (by kernel_rfl) (by kernel_rfl) (by kernel_rfl) (fun _ _ _ h => h) (Or.inl ⟨by rfl, ?_⟩) (by assumption) ?_
      rotate_left
      · intro w hSw; (try dsimp only at hSw); go_simp; try with_reducible rfl
      (try simp only [Act.put, List.setIfInBounds_toArray, List.set_cons_zero, List.set_cons_succ])
      refine wpAnyH_take (i := 7) (oi := _) (v := ?_) rfl (by kernel_rfl) (by kernel_rfl) (by kernel_rfl) (fun _ _ _ h => h) (Or.inl ⟨by rfl, ?_⟩) (by assumption) ?_
      rotate_left
      · intro w hSw; (try dsimp only at hSw); go_simp; try with_reducible rfl
      (try simp only [Act.put, List.setIfInBounds_toArray, List.set_cons_zero, List.set_cons_succ])
      refine wpAnyH_take (i := 8) (oi := _) (v := ?_) rfl (by kernel_rfl) (by kernel_rfl) (by kernel_rfl) (fun _ _ _ h => h) (Or.inl ⟨by rfl, ?_⟩) (by assumption) ?_
      rotate_left
      · intro w hSw; (try dsimp only at hSw); go_simp; try with_reducible rfl
      (try simp only [Act.put, List.setIfInBounds_toArray, List.set_cons_zero, List.set_cons_succ])
      refine wpAnyH_ready (rs := [4, 9]) (by kernel_rfl) (by simp) ?_
      refine AllReadyH.cons rfl (fun K hK => ?_) (AllReadyH.cons rfl (fun K hK => ?_) AllReadyH.nil)
      · go_simp
        go_wp2_with fail
        refine hK.out _ _ (sK _ kI.drew) (fun hHeld => ?_)
        clear hK K
        (try dsimp only [Act.put]); (try simp only [Act.put, List.setIfInBounds_toArray, List.set_cons_zero, List.set_cons_succ])
        refine wpAnyH_ready (rs := [9]) (by kernel_rfl) (by simp) ?_
        refine AllReadyH.cons rfl (fun K hK => ?_) AllReadyH.nil
        go_simp
        go_wp2_with fail
        refine hK.out _ _ (sK _ (kI.alloc _).drew) (fun hHeld => ?_)
        clear hK K
        (try dsimp only [Act.put]); (try simp only [Act.put, List.setIfInBounds_toArray, List.set_cons_zero, List.set_cons_succ])
        have hr5 : (w4.alloc (.cells #[.int .u64 x] 22)).drew.ownsRow Bn 22 1 v k ((M.take k).map (Value.int .u64)) := (hrow.alloc _).drew
        have hnew := cell_one_new w4 (.int .u64 x) 22
        replace hnew : ∀ (j : Nat) (u : Value), [Value.int .u64 x][j]? = some u → (w4.alloc (.cells #[.int .u64 x] 22)).drew.cell? ((⟨w4.heap.size, 0, none⟩ : Addr).add j) = some u := hnew
        have hB5 : Bn ≤ (w4.alloc (.cells #[.int .u64 x] 22)).drew.heap.size := by simp; omega
        have kX : Keep (fun b => b = Dn ∨ Bn ≤ b) w4 (w4.alloc (.cells #[.int .u64 x] 22)).drew := ((Keep.refl _ _).alloc _).drew
        have hgr : ∀ w6 r, (w4.alloc (.cells #[.int .u64 x] 22)).drew.grownBy w6 r → (w4.alloc (.cells #[.int .u64 x] 22)).grownBy w6 r := fun w6 r h => ⟨h.1, h.2, h.3, h.4, h.5⟩
        clear hHeld
        generalize (w4.alloc (.cells #[.int .u64 x] 22)).drew = X5 at *
        refine wpAnyH_ready (rs := [10]) (by kernel_rfl) (by simp) ?_
        refine AllReadyH.cons rfl (fun K hK => ?_) AllReadyH.nil
        rw [if_pos (by kernel_rfl)]
        refine wp_append_own _ _ _ _ rfl Bn 22 u0 (.int .u64 0) 1 8 Try.underlying65 hu hu0 hu1 hu2 rfl (by decide) _ _ _ rfl hr5 ⟨w4.heap.size, 0, none⟩ 1 1 [.int .u64 x] rfl rfl hnew (by simp [Value.oneCell']) (by unfold maxLen; omega) (by omega) hB5 ?_
        intro v' w6 hown' hgrow _
        have hgb := grown_below (hgr _ _ hgrow) hrow g8
        obtain ⟨gg, gc, rfl⟩ := row_slice hown' (by omega)
        have D6 := hD.below hgb (by omega)
        have z0 := D6.free 0
        have d0 := D6.cell 0 v rfl
        have k6 : Keep (fun b => b = Dn ∨ Bn ≤ b) w4 w6 := ⟨hgb.os, hgb.tape, hgb.output, hgb.size, fun i hi hn => hgb.block i (by omega)⟩
        have k7 := k6.set (p := ⟨Dn, 0, none⟩) (fun _ => Or.inl rfl) (.slice (some ⟨gg, 0, none⟩) (k + 1) gc)
        refine hK.out _ _ (sK _ k6) (fun hHeld => ?_)
        clear hK K
        (try dsimp only [Act.put]); (try simp only [Act.put, List.setIfInBounds_toArray, List.set_cons_zero, List.set_cons_succ])
        refine wpAnyH_take (i := 11) (oi := _) (v := ?_) rfl (by kernel_rfl) (by kernel_rfl) (by kernel_rfl) (fun _ _ _ h => h) (Or.inl ⟨by rfl, ?_⟩) (by assumption) ?_
        rotate_left
        · intro w hSw; (try dsimp only at hSw); go_simp; try with_reducible rfl
        (try simp only [Act.put, List.setIfInBounds_toArray, List.set_cons_zero, List.set_cons_succ])
        refine wpAnyH_take (i := 12) (oi := _) (v := ?_) rfl (by kernel_rfl) (by kernel_rfl) (by kernel_rfl) (fun _ _ _ h => h) (Or.inl ⟨by rfl, ?_⟩) (by assumption) ?_
        rotate_left
        · intro w hSw; (try dsimp only at hSw); go_simp; try with_reducible rfl
        (try simp only [Act.put, List.setIfInBounds_toArray, List.set_cons_zero, List.set_cons_succ])
        refine wpAnyH_ready (rs := [13]) (by kernel_rfl) (by simp) ?_
        refine AllReadyH.cons rfl (fun K hK => ?_) AllReadyH.nil
        go_simp
        go_wp2_with fail
        refine hK.out _ _ (sK _ k7) (fun hHeld => ?_)
        clear hK K
        (try dsimp only [Act.put]); (try simp only [Act.put, List.setIfInBounds_toArray, List.set_cons_zero, List.set_cons_succ])
        refine wpAnyH_done (by kernel_rfl) ?_ _
        go_wp2
        go_roundw
        case rel =>
          have kk : Keep (fun b => b = Dn) w6 (w6.setCell ⟨Dn, 0, none⟩ (.slice (some ⟨gg, 0, none⟩) (k + 1) gc)) := (Keep.refl (fun b => b = Dn) w6).set (p := ⟨Dn, 0, none⟩) (fun _ => rfl) _
          refine ⟨k + 1, by omega, by go_num, ⟨g2.keep k7 (by omega), g3.keep k7 (by omega), g1.keep k7 (by show ¬ (Cn = Dn ∨ Bn ≤ Cn); omega) (by show ¬ (Sn = Dn ∨ Bn ≤ Sn); omega), g4.keep k7 (by show ¬ (Pn = Dn ∨ Bn ≤ Pn); omega) (by show ¬ (Rn = Dn ∨ Bn ≤ Rn); omega) (fun y hy => nX y hy), ⟨_, D6.set 0 _, ?_⟩, g6.keep k7 (by show ¬ (Vn = Dn ∨ Bn ≤ Vn); omega), (g7.trans (hgb.mono (by omega))).setCell (p := ⟨Dn, 0, none⟩) (by show w.heap.size ≤ Dn; omega) _, HL.out, by show Bn ≤ _; rw [World.size_setCell]; exact Nat.le_trans g8 hgb.size⟩⟩
          have := ownsRow_keepQ hown' kk (fun g hg => by omega)
          rw [take_at HX.out, List.map_append]
          exact this
        case measure => simp [intOf]; omega
      · go_simp
        go_wp2_with fail
        refine hK.out _ _ (sK _ (kI.alloc _).drew) (fun hHeld => ?_)
        clear hK K
        (try dsimp only [Act.put]); (try simp only [Act.put, List.setIfInBounds_toArray, List.set_cons_zero, List.set_cons_succ])
        have c1 : (w4.alloc (.cells #[.int .u64 x] 22)).cell? ⟨Dn, 0, none⟩ = some v := (hD.alloc _).cell 0 _ rfl
        refine wpAnyH_ready (rs := [4]) (by kernel_rfl) (by simp) ?_
        refine AllReadyH.cons rfl (fun K hK => ?_) AllReadyH.nil
        go_simp
        go_wp2_with fail
        refine hK.out _ _ (sK _ (kI.alloc _).drew) (fun hHeld => ?_)
        clear hK K
        (try dsimp only [Act.put]); (try simp only [Act.put, List.setIfInBounds_toArray, List.set_cons_zero, List.set_cons_succ])
        have hr5 : (w4.alloc (.cells #[.int .u64 x] 22)).drew.ownsRow Bn 22 1 v k ((M.take k).map (Value.int .u64)) := (hrow.alloc _).drew
        have hnew := cell_one_new w4 (.int .u64 x) 22
        replace hnew : ∀ (j : Nat) (u : Value), [Value.int .u64 x][j]? = some u → (w4.alloc (.cells #[.int .u64 x] 22)).drew.cell? ((⟨w4.heap.size, 0, none⟩ : Addr).add j) = some u := hnew
        have hB5 : Bn ≤ (w4.alloc (.cells #[.int .u64 x] 22)).drew.heap.size := by simp; omega
        have kX : Keep (fun b => b = Dn ∨ Bn ≤ b) w4 (w4.alloc (.cells #[.int .u64 x] 22)).drew := ((Keep.refl _ _).alloc _).drew
        have hgr : ∀ w6 r, (w4.alloc (.cells #[.int .u64 x] 22)).drew.grownBy w6 r → (w4.alloc (.cells #[.int .u64 x] 22)).grownBy w6 r := fun w6 r h => ⟨h.1, h.2, h.3, h.4, h.5⟩
        clear hHeld
        generalize (w4.alloc (.cells #[.int .u64 x] 22)).drew = X5 at *
        refine wpAnyH_ready (rs := [10]) (by kernel_rfl) (by simp) ?_
        refine AllReadyH.cons rfl (fun K hK => ?_) AllReadyH.nil
        rw [if_pos (by kernel_rfl)]
        refine wp_append_own _ _ _ _ rfl Bn 22 u0 (.int .u64 0) 1 8 Try.underlying65 hu hu0 hu1 hu2 rfl (by decide) _ _ _ rfl hr5 ⟨w4.heap.size, 0, none⟩ 1 1 [.int .u64 x] rfl rfl hnew (by simp [Value.oneCell']) (by unfold maxLen; omega) (by omega) hB5 ?_
        intro v' w6 hown' hgrow _
        have hgb := grown_below (hgr _ _ hgrow) hrow g8
        obtain ⟨gg, gc, rfl⟩ := row_slice hown' (by omega)
        have D6 := hD.below hgb (by omega)
        have z0 := D6.free 0
        have d0 := D6.cell 0 v rfl
        have k6 : Keep (fun b => b = Dn ∨ Bn ≤ b) w4 w6 := ⟨hgb.os, hgb.tape, hgb.output, hgb.size, fun i hi hn => hgb.block i (by omega)⟩
        have k7 := k6.set (p := ⟨Dn, 0, none⟩) (fun _ => Or.inl rfl) (.slice (some ⟨gg, 0, none⟩) (k + 1) gc)
        refine hK.out _ _ (sK _ k6) (fun hHeld => ?_)
        clear hK K
        (try dsimp only [Act.put]); (try simp only [Act.put, List.setIfInBounds_toArray, List.set_cons_zero, List.set_cons_succ])
        refine wpAnyH_take (i := 11) (oi := _) (v := ?_) rfl (by kernel_rfl) (by kernel_rfl) (by kernel_rfl) (fun _ _ _ h => h) (Or.inl ⟨by rfl, ?_⟩) (by assumption) ?_
        rotate_left
        · intro w hSw; (try dsimp only at hSw); go_simp; try with_reducible rfl
        (try simp only [Act.put, List.setIfInBounds_toArray, List.set_cons_zero, List.set_cons_succ])
        refine wpAnyH_take (i := 12) (oi := _) (v := ?_) rfl (by kernel_rfl) (by kernel_rfl) (by kernel_rfl) (fun _ _ _ h => h) (Or.inl ⟨by rfl, ?_⟩) (by assumption) ?_
        rotate_left
        · intro w hSw; (try dsimp only at hSw); go_simp; try with_reducible rfl
        (try simp only [Act.put, List.setIfInBounds_toArray, List.set_cons_zero, List.set_cons_succ])
        refine wpAnyH_ready (rs := [13]) (by kernel_rfl) (by simp) ?_
        refine AllReadyH.cons rfl (fun K hK => ?_) AllReadyH.nil
        go_simp
        go_wp2_with fail
        refine hK.out _ _ (sK _ k7) (fun hHeld => ?_)
        clear hK K
        (try dsimp only [Act.put]); (try simp only [Act.put, List.setIfInBounds_toArray, List.set_cons_zero, List.set_cons_succ])
        refine wpAnyH_done (by kernel_rfl) ?_ _
        go_wp2
        go_roundw
        case rel =>
          have kk : Keep (fun b => b = Dn) w6 (w6.setCell ⟨Dn, 0, none⟩ (.slice (some ⟨gg, 0, none⟩) (k + 1) gc)) := (Keep.refl (fun b => b = Dn) w6).set (p := ⟨Dn, 0, none⟩) (fun _ => rfl) _
          refine ⟨k + 1, by omega, by go_num, ⟨g2.keep k7 (by omega), g3.keep k7 (by omega), g1.keep k7 (by show ¬ (Cn = Dn ∨ Bn ≤ Cn); omega) (by show ¬ (Sn = Dn ∨ Bn ≤ Sn); omega), g4.keep k7 (by show ¬ (Pn = Dn ∨ Bn ≤ Pn); omega) (by show ¬ (Rn = Dn ∨ Bn ≤ Rn); omega) (fun y hy => nX y hy), ⟨_, D6.set 0 _, ?_⟩, g6.keep k7 (by show ¬ (Vn = Dn ∨ Bn ≤ Vn); omega), (g7.trans (hgb.mono (by omega))).setCell (p := ⟨Dn, 0, none⟩) (by show w.heap.size ≤ Dn; omega) _, HL.out, by show Bn ≤ _; rw [World.size_setCell]; exact Nat.le_trans g8 hgb.size⟩⟩
          have := ownsRow_keepQ hown' kk (fun g hg => by omega)
          rw [take_at HX.out, List.map_append]
          exact this
        case measure => simp [intOf]; omega
    · obtain rfl : k = 4 := by omega
      go_wp2
      go_loopw [11] (fun i wr => ∃ t : Nat, t ≤ 3 ∧ i = .int .i64 t ∧ WInv w wr ⟨Cn, Sn, Pn, Rn, cs, Dn, 0, Vn⟩ Bn M H 4 t) (fun i wr => 3 - (intOf i).toNat)
      case atStart => exact ⟨0, by omega, rfl, hI⟩
      case round =>
        clear hI
        obtain ⟨t, ht, rfl, hI⟩ := hrel
        by_cases htl : t < 3
        · obtain ⟨y, hy⟩ : ∃ y, H[t]? = some y := ⟨H[t]'(by omega), by simp⟩
          have f0 := hI.b.cell t (.bool y) (by simp [hy])
          have hgv := Lib.hid (give_any Pn Rn cs (permsSo H t) t false wr hI.perms (permsSo_at (by omega)))
          have i0 : 0 ≤ (t : Int) ∧ (t : Int) < 3 := by omega
          have hset := permsSo_set hy
          cases y
          · go_wp2
            go_roundw
            case rel =>
              have hsame : permsSo H (t + 1) = permsSo H t := by
                rw [← hset]; exact set_same (permsSo_at (by omega))
              refine ⟨t + 1, by omega, by go_num, ?_⟩
              obtain ⟨h1, h2, h3, h4, h5, h6, h7, h8, h9⟩ := hI
              exact ⟨h1, h2, h3, by rw [hsame]; exact h4, h5, by rw [hsame]; exact h6, h7, h8, h9⟩
            case measure => simp [intOf]; omega
          · have HI := Lib.hid hI
            have HS := Lib.hid hset
            clear hI hset hy
            go_upto_region 13 with (go_at_call 26; refine hgv.out.mono ?_; rintro e w4 ⟨rfl, hP, kP⟩)
            obtain ⟨h1, h2, h3, h4, ⟨v, hD, hrow⟩, h6, h7, h8, h9⟩ := HI.out
            have kc := fun {b : Nat} {ty : TypeId} {xs : Array Value} => HI.out.chan (b := b) (ty := ty) (xs := xs)
            dsimp only at h3 h4 h6 hD h8 kc hP kP
            have hD4 := hD.keep kP (kc hD)
            have hV4 := h6.keep kP (kc h6)
            have d2 : w4.cell? ⟨Dn, 2, none⟩ = some (.slice (some ⟨Vn, 0, none⟩) 3 3) := hD4.cell 2 _ rfl
            have v0 := hV4.cell t _ (permV_at (permsSo_at (by omega)))
            have z0 := hV4.free t
            clear hgv f0
            go_wp2
            go_roundw
            case rel =>
              have kk : Keep (fun b => b = Vn) w4 (w4.setCell ⟨Vn, t, none⟩ (.int .i64 1)) := (Keep.refl (fun b => b = Vn) w4).set (p := ⟨Vn, t, none⟩) (fun _ => rfl) _
              have nV : ∀ {b : Nat} {ty : TypeId} {xs : Array Value}, Blk wr b ty xs → ty ≠ 3 → b ≠ Vn := fun hb h => hb.apart h6 h
              have hP2 : PermitsAt w4 Pn Rn cs (permsSo H (t + 1)) := by rw [← HS.out]; exact hP
              have hrow4 := ownsRow_keepQ hrow kP (fun g hg hx => by have := h8.2.2.1 g hx; omega)
              refine ⟨_, _, _, _, _, _, _, _, _, _, _, _, _, _, _, _, _, ?_, rfl⟩
              refine ⟨t + 1, by omega, by go_num, ⟨(h1.keep kP (kc h1)).keep kk (nV h1 (by decide)), (h2.keep kP (kc h2)).keep kk (nV h2 (by decide)), (h3.keep kP (kc h3.own) (kc h3.row)).keep kk (nV h3.own (by decide)) (nV h3.row (by decide)),
                hP2.keep kk (hP2.own.apart hV4 (by decide)) (hP2.row.apart hV4 (by decide)) (fun x hx e => kc h6 (by rw [← e]; exact hx)), ⟨v, hD4.keep kk (nV hD (by decide)), ownsRow_keepQ hrow4 kk (fun g hg => by have := h8.2.2.2.2.1; omega)⟩, ?_, (h7.trans (kP.below h7.size (fun i _ hi => h8.2.2.2.2.2.2.2.2.1 i hi))).setCell (p := ⟨Vn, t, none⟩) (by show w.heap.size ≤ Vn; have := h8.2.2.2.2.2.2.2.2.2.2.1; omega) _, HI.out.lt, by rw [World.size_setCell]; exact Nat.le_trans h9 kP.size⟩⟩
              have := hV4.set t (.int .i64 (if true then 1 else 0))
              rw [permV_set, HS.out] at this
              exact this
            case measure => simp [intOf]; omega
        · obtain rfl : t = 3 := by omega
          go_wp2
          have e1 : soFar M 4 = M := by rw [← hMl]; exact soFar_all
          have e2 : permsSo H 3 = H := by rw [← hHl]; exact permsSo_all
          obtain ⟨h1, h2, h3, h4, ⟨v, hD, hrow⟩, h6, h7, h8, h9⟩ := hI
          dsimp only at h3 h4 h6 hD h8
          have hM4 : M.take 4 = M := by rw [← hMl]; exact List.take_length
          rw [e1] at h3
          rw [e2] at h4 h6
          rw [hM4] at hrow
          rcases hrow.2 with ⟨_, h0⟩ | ⟨g, cap, cur, rfl, hg, hh, hnc, _, hcs, htk⟩
          · omega
          · have hgw : Blk wr g 22 cur := hh
            have hne1 : Dn ≠ g := hD.apart hgw (by decide)
            have hne2 : Dn ≠ Vn := hD.apart h6 (by decide)
            have hne3 : g ≠ Vn := hgw.apart h6 (by decide)
            have hSg : Sn ≠ g := by have := h8.2.1; omega
            refine bodyPost_ret (v := .tuple #[cellsV Cn, permitsV Pn, ptrV Dn]) (by simp [results, Try.results19, go_sem]) rfl ?_
            refine ⟨⟨Cn, Sn, Pn, Rn, cs, Dn, g, Vn⟩, rfl, ⟨h3, h4, ⟨⟨cap, by rw [hMl, hHl]; exact hD⟩, ⟨cur, hgw, ?_⟩, h6, ⟨hMl, hHl⟩, ⟨hne1, hne2, hne3⟩⟩, hSg⟩, h7, fun b hb => ?_⟩
            · rw [hMl]
              simpa using htk
            · obtain ⟨q1, q2, q3, q4, q5, q6, q7, q8, q9, q10, q11, q12, q13, q14, q15⟩ := h8
              rcases hb with rfl | rfl | rfl | rfl | hb | rfl | rfl | rfl
              · exact q7
              · exact q8
              · exact q14
              · exact q15
              · exact q9 b hb
              · exact q10
              · show w.heap.size ≤ b; omega
              · exact q11
end Go.Proofs.Ytmkgbbbhmbejnaa
