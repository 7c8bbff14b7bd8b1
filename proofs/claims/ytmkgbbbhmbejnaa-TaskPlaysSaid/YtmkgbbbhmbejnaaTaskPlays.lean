/- Layer 6's law: TaskPlays. -/
import Derived.Test.YtmkgbbbhmbejnaaTaskTrio
import Derived.Test.YtmkgbbbhmbejnaaTaskWorksB
import Derived.Test.YtmkgbbbhmbejnaaAppend
namespace Go.Proofs.Ytmkgbbbhmbejnaa
open Go.ChangeShapes Go.WideShapes Go.ChangeAt Go.RowKit
set_option linter.unusedVariables false
set_option maxRecDepth 100000
set_option linter.unusedSimpArgs false
/-- picks that came in -/
def PicksAt (w : World) (n0 : Nat) (a : Option Addr) (len : Nat) : Prop :=
  ∀ i, i < len → ∃ b off, a = some ⟨b, off, none⟩ ∧ b < n0 ∧ ∃ (K D : Int) (G : Bool), (0 ≤ K ∧ K ≤ 255) ∧ (0 ≤ D ∧ D ≤ 255) ∧
    w.cell? ⟨b, off + i * 3, none⟩ = some (.int .u8 K) ∧ w.cell? ⟨b, off + i * 3 + 1, none⟩ = some (.int .u8 D) ∧ w.cell? ⟨b, off + i * 3 + 2, none⟩ = some (.bool G)
theorem RawAt.below {w w1 : World} {n0 : Nat} {a : Option Addr} {len : Nat} (h : RawAt w n0 a len) (hb : Below n0 w w1) : RawAt w1 n0 a len := fun i hi => by
  obtain ⟨b, off, e, hl, K, A, X, Y, h1, h2, h3, h4, q0, q1, q2, q3⟩ := h i hi
  exact ⟨b, off, e, hl, K, A, X, Y, h1, h2, h3, h4, (hb.cell (p := ⟨b, _, none⟩) hl).trans q0, (hb.cell (p := ⟨b, _, none⟩) hl).trans q1, (hb.cell (p := ⟨b, _, none⟩) hl).trans q2, (hb.cell (p := ⟨b, _, none⟩) hl).trans q3⟩
theorem RawAt.mono {w : World} {n0 n1 : Nat} {a : Option Addr} {len : Nat} (h : RawAt w n0 a len) (hn : n0 ≤ n1) : RawAt w n1 a len := fun i hi => by
  obtain ⟨b, off, e, hl, r⟩ := h i hi
  exact ⟨b, off, e, by omega, r⟩
theorem ItemsAt.empty {w : World} {I : Nat} {v : Value} {l : List Itm} (h : ItemsAt w I v l) (hl : l.length = 0) (J : Nat) : ItemsAt w J v l := by
  have : l = [] := List.length_eq_zero_iff.1 hl
  subst this
  obtain ⟨a, cap, e, _⟩ := h.is
  exact ⟨⟨a, cap, e, fun h => absurd h (by simp)⟩, fun i x hx => by simp at hx, h.ok, h.few⟩
theorem pt_info : (Try.prog.info? 56).map (fun i => (i.zero, i.size, i.bytes)) = some (some (.pointer none), 1, 8) := by kernel_rfl
theorem pr_info : (Try.prog.info? 58).map (fun i => (i.zero, i.size, i.bytes)) = some (some (.pointer none), 1, 8) := by kernel_rfl
/-- both are at the same place -/
def Even (L : List Rec) : Prop := ∀ x ∈ L, x.r2 = x.r ∧ x.v2 = x.v
/-- the law's rows -/
structure Rows2 (w : World) (n0 : Nat) (L : List Rec) (lab : Nat → Nat) (v8 v9 : Value) : Prop where
  r8 : w.ownsRow n0 56 1 v8 L.length (L.map fun x => ptrV x.t)
  r9 : w.ownsRow n0 58 1 v9 L.length (L.map fun x => ptrV x.T)
  l8 : ∀ g, v8.ownBlock = some g → lab g = 40
  l9 : ∀ g, v9.ownBlock = some g → lab g = 40
theorem own_some {g g' n c : Nat} (h : (Value.slice (some ⟨g, 0, none⟩) n c).ownBlock = some g') : g = g' := by simpa [Value.ownBlock] using h
theorem row_ownkeep {w w' : World} {B size n : Nat} {e : TypeId} {v : Value} {xs : List Value} {Q : Nat → Prop} (h : w.ownsRow B e size v n xs) (hk : Keep Q w w') (hQ : ∀ g, v.ownBlock = some g → ¬ Q g) : w'.ownsRow B e size v n xs := by
  refine ⟨h.1, ?_⟩
  rcases h.2 with h | ⟨g, cap, cur, hv, hg, hh, r⟩
  · exact .inl h
  · exact .inr ⟨g, cap, cur, hv, hg, (hk.block g (Array.getElem?_eq_some_iff.1 hh).1 (hQ g (by rw [hv]; rfl))).trans hh, r⟩
theorem row_lt {w : World} {B size n : Nat} {e : TypeId} {v : Value} {xs : List Value} (h : w.ownsRow B e size v n xs) {g : Nat} (hg : v.ownBlock = some g) : g < w.heap.size ∧ ∃ cur, Blk w g e cur := by
  rcases h.2 with ⟨hv, _⟩ | ⟨g', cap, cur, hv, _, hh, _⟩
  · rw [hv] at hg; simp [Value.ownBlock] at hg
  · rw [hv] at hg
    obtain rfl : g' = g := by simpa [Value.ownBlock] using hg
    exact ⟨(Array.getElem?_eq_some_iff.1 hh).1, cur, hh⟩
theorem rows_apart {w : World} {B B' n n' : Nat} {e e' : TypeId} {v v' : Value} {xs xs' : List Value} (h : w.ownsRow B e 1 v n xs) (h' : w.ownsRow B' e' 1 v' n' xs') (he : e ≠ e') (g : Nat) (hg : v.ownBlock = some g) : ¬ v'.ownBlock = some g := fun hg' => by
  obtain ⟨_, cur, hb⟩ := row_lt h hg
  obtain ⟨_, cur', hb'⟩ := row_lt h' hg'
  exact hb.apart hb' he rfl
theorem grown_keep {w w2 : World} {r : Option Nat} {o : Obj} (hg : (w.alloc o).grownBy w2 r) : Keep (fun b => r = some b) w w2 :=
  ⟨hg.1, hg.2, hg.3, Nat.le_trans (by simp) hg.4, fun k hk hn => (hg.5 k (by simp; omega) (fun e => hn e.symm)).trans (Below.heap_alloc w o k hk)⟩
theorem stepCount_le (m : List Int) (r : List Itm) : 0 ≤ stepCount m r ∧ stepCount m r ≤ 1 := by
  unfold stepCount countS
  repeat' split
  all_goals omega
theorem even_set {L : List Rec} (h : Even L) (i : Nat) (x : Rec) (hx : x.r2 = x.r ∧ x.v2 = x.v) : Even (L.set i x) := fun y hy => by
  rcases List.mem_or_eq_of_mem_set hy with hy | rfl
  · exact h y hy
  · exact hx
theorem map_set_t {L : List Rec} {i : Nat} {x y : Rec} (hx : L[i]? = some x) (h1 : y.t = x.t) (h2 : y.T = x.T) : (L.set i y).map (fun x => ptrV x.t) = L.map (fun x => ptrV x.t) ∧ (L.set i y).map (fun x => ptrV x.T) = L.map (fun x => ptrV x.T) := by
  constructor
  · apply List.ext_getElem?
    intro j
    rw [List.getElem?_map, List.getElem?_map]
    by_cases e : i = j
    · subst e
      rw [List.getElem?_set_self (List.getElem?_eq_some_iff.1 hx).1, hx]; simp [h1]
    · rw [List.getElem?_set_ne e]
  · apply List.ext_getElem?
    intro j
    rw [List.getElem?_map, List.getElem?_map]
    by_cases e : i = j
    · subst e
      rw [List.getElem?_set_self (List.getElem?_eq_some_iff.1 hx).1, hx]; simp [h2]
    · rw [List.getElem?_set_ne e]
set_option maxHeartbeats 8000000 in
theorem plays_any (f0 f1 f2 f3 p : Int) (b0 b1 b2 : Bool) (a0 a1 a2 pa : Option Addr) (l0 l1 l2 c0 c1 c2 pl pc : Nat) (w : World) (hf : (0 ≤ f0 ∧ f0 ≤ 65535) ∧ (0 ≤ f1 ∧ f1 ≤ 65535) ∧ (0 ≤ f2 ∧ f2 ≤ 65535) ∧ (0 ≤ f3 ∧ f3 ≤ 65535)) (hp : 0 ≤ p ∧ p ≤ 255)
    (hl0 : l0 ≤ 9223372036854775807) (hl1 : l1 ≤ 9223372036854775807) (hl2 : l2 ≤ 9223372036854775807) (hpl : pl ≤ 9223372036854775807)
    (h0 : RawAt w w.heap.size a0 l0) (h1 : RawAt w w.heap.size a1 l1) (h2 : RawAt w w.heap.size a2 l2) (hP : PicksAt w w.heap.size pa pl) :
    Calls Try.prog 4 #[.agg #[.int .u16 f0, .int .u16 f1, .int .u16 f2, .int .u16 f3, .bool b0, .bool b1, .bool b2, .slice a0 l0 c0, .slice a1 l1 c1, .slice a2 l2 c2, .int .u8 p], .slice pa pl pc] w
      fun e w' => e = .returned (.bool true) ∧ Below w.heap.size w w' := by
  obtain ⟨p0, hp0, hp1, hp2, hp3⟩ := info_parts pt_info
  obtain ⟨q0, hq0, hq1, hq2, hq3⟩ := info_parts pr_info
  have HW := Lib.hid fun W => world_any f0 f1 f2 f3 b0 b1 b2 W hf
  have HWk := Lib.hid fun W => works6_any W
  have hX : Blk (w.alloc (.cells #[.int .u16 f0, .int .u16 f1, .int .u16 f2, .int .u16 f3, .bool b0, .bool b1, .bool b2, .slice a0 l0 c0, .slice a1 l1 c1, .slice a2 l2 c2, .int .u8 p] 46)) w.heap.size 46 #[.int .u16 f0, .int .u16 f1, .int .u16 f2, .int .u16 f3, .bool b0, .bool b1, .bool b2, .slice a0 l0 c0, .slice a1 l1 c1, .slice a2 l2 c2, .int .u8 p] := Blk.new _ _ _
  have hB : Below w.heap.size w (w.alloc (.cells #[.int .u16 f0, .int .u16 f1, .int .u16 f2, .int .u16 f3, .bool b0, .bool b1, .bool b2, .slice a0 l0 c0, .slice a1 l1 c1, .slice a2 l2 c2, .int .u8 p] 46)) := (Below.refl _ w).alloc (Nat.le_refl _) _
  have hsz : (w.alloc (.cells #[.int .u16 f0, .int .u16 f1, .int .u16 f2, .int .u16 f3, .bool b0, .bool b1, .bool b2, .slice a0 l0 c0, .slice a1 l1 c1, .slice a2 l2 c2, .int .u8 p] 46)).heap.size = w.heap.size + 1 := by simp
  go_enter Try.func4, Try.ntmps4
  go_upto_region 1 with fail
  generalize w.alloc (.cells #[.int .u16 f0, .int .u16 f1, .int .u16 f2, .int .u16 f3, .bool b0, .bool b1, .bool b2, .slice a0 l0 c0, .slice a1 l1 c1, .slice a2 l2 c2, .int .u8 p] 46) = W0 at *
  have x0 : W0.cell? ⟨w.heap.size, 0, none⟩ = some (.int .u16 f0) := hX.cell 0 _ rfl
  have x1 : W0.cell? ⟨w.heap.size, 1, none⟩ = some (.int .u16 f1) := hX.cell 1 _ rfl
  have x2 : W0.cell? ⟨w.heap.size, 2, none⟩ = some (.int .u16 f2) := hX.cell 2 _ rfl
  have x3 : W0.cell? ⟨w.heap.size, 3, none⟩ = some (.int .u16 f3) := hX.cell 3 _ rfl
  have x4 : W0.cell? ⟨w.heap.size, 4, none⟩ = some (.bool b0) := hX.cell 4 _ rfl
  have x5 : W0.cell? ⟨w.heap.size, 5, none⟩ = some (.bool b1) := hX.cell 5 _ rfl
  have x6 : W0.cell? ⟨w.heap.size, 6, none⟩ = some (.bool b2) := hX.cell 6 _ rfl
  go_upto_region 2 with (go_at_call 19; refine (HW.out _).mono ?_; rintro e w1 ⟨c, rfl, hS, kb, hids⟩)
  have hX1 := hX.below kb (by omega)
  clear x0 x1 x2 x3 x4 x5 x6
  go_upto_region 6 with (go_at_call 20; refine (HWk.out _).mono ?_; rintro e w2 ⟨rfl, kb2⟩)
  have kk2 : Keep (fun _ => False) w1 w2 := Keep.ofBelow kb2
  have hS2 := hS.still kk2
  have hX2 := hX1.keep kk2 (fun h => h)
  have hB2 := (hB.trans (kb.mono (by omega))).trans (kb2.mono (by have := hX1.lt; omega))
  obtain ⟨lab, hT, hlz⟩ := Trio.begin (n0 := w.heap.size) (z := w.heap.size) hS2 ⟨Nat.le_refl _, hX2.lt⟩ (fun b hb => by
    have h1 := hids b hb
    have h2 := hS2.lt b hb
    exact ⟨by omega, h2, by omega⟩)
  have hR0 : Rows2 w2 w.heap.size [] lab (.slice none 0 0) (.slice none 0 0) := ⟨World.ownsRow_nil _ _ _ _, World.ownsRow_nil _ _ _ _, fun g h => by simp [Value.ownBlock] at h, fun g h => by simp [Value.ownBlock] at h⟩
  clear hS hS2 hX hX1 hB hids kb kb2 kk2 hsz HW HWk
  have HP := Lib.hid hp
  clear hp
  obtain ⟨M, hM⟩ : ∃ M, [f0, f1, f2, f3] = M := ⟨_, rfl⟩
  obtain ⟨H, hH⟩ : ∃ H, [b0, b1, b2] = H := ⟨_, rfl⟩
  rw [hM, hH] at hT
  have HM := Lib.hid hM
  have HH := Lib.hid hH
  have H0 := Lib.hid h0
  have H1 := Lib.hid h1
  have H2 := Lib.hid h2
  have HPk := Lib.hid hP
  clear hM hH hf h0 h1 h2 hP
  have n0p : 0 < w2.heap.size := by have := hX2.lt; omega
  go_wp2
  go_loopw [8, 9, 10] (fun v8 v9 i wr => ∃ (L : List Rec) (lab : Nat → Nat), L.length ≤ 3 ∧ i = .int .i64 L.length ∧ Trio w.heap.size wr c L lab M M H H 4 0 ∧ Even L ∧ Rows2 wr w.heap.size L lab v8 v9 ∧ lab w.heap.size = 30 ∧ Blk wr w.heap.size 46 #[.int .u16 f0, .int .u16 f1, .int .u16 f2, .int .u16 f3, .bool b0, .bool b1, .bool b2, .slice a0 l0 c0, .slice a1 l1 c1, .slice a2 l2 c2, .int .u8 p] ∧ Below w.heap.size w wr) (fun _ _ i wr => 3 - (intOf i).toNat)
  case atStart => exact ⟨[], lab, by simp, rfl, hT, fun x hx => by simp at hx, hR0, hlz, hX2, hB2⟩
  case round =>
    clear hT hR0 hlz hX2 hB2 lab
    obtain ⟨L, lab, hL, rfl, hT, hE, hR, hlz, hX, hB⟩ := hrel
    have hbs := hB.size
    have hxl := hX.lt
    by_cases hlt : L.length < 3
    · obtain ⟨a, l, cc, hcell, hraw, hll⟩ : ∃ (a : Option Addr) (l cc : Nat), wr.cell? ⟨w.heap.size, 7 + L.length, none⟩ = some (.slice a l cc) ∧ RawAt wr wr.heap.size a l ∧ l ≤ 9223372036854775807 := by
        have h3 : L.length = 0 ∨ L.length = 1 ∨ L.length = 2 := by omega
        rcases h3 with h3 | h3 | h3 <;> rw [h3]
        · exact ⟨a0, l0, c0, hX.cell 7 _ rfl, (H0.out.below hB).mono hbs, hl0⟩
        · exact ⟨a1, l1, c1, hX.cell 8 _ rfl, (H1.out.below hB).mono hbs, hl1⟩
        · exact ⟨a2, l2, c2, hX.cell 9 _ rfl, (H2.out.below hB).mono hbs, hl2⟩
      have hpc : wr.cell? ⟨w.heap.size, 10, none⟩ = some (.int .u8 p) := hX.cell 10 _ rfl
      have HF := Lib.hid (few_any a l cc hll wr hraw (by omega))
      have HT := Lib.hid hT
      have HR := Lib.hid hR
      have HX := Lib.hid hX
      clear hT hR hX hraw
      have i0 : 0 ≤ (L.length : Int) ∧ (L.length : Int) < 3 := by omega
      go_upto_region 10 with (go_at_call 21; refine HF.out.mono ?_; rintro e w3 ⟨v3, rfl, ⟨I, ls, hI, hIl, hIb⟩, kb3⟩)
      obtain ⟨I2, hI2, hI2d⟩ : ∃ I2, ItemsAt w3 I2 v3 ls ∧ ((wr.heap.size ≤ I2 ∧ I2 < w3.heap.size) ∨ lab I2 = 30) := by
        by_cases he : 0 < ls.length
        · exact ⟨I, hI, .inl ⟨hIb he, hIl⟩⟩
        · exact ⟨w.heap.size, hI.empty (by omega) _, .inr hlz⟩
      have k3 : Keep (fun _ => False) wr w3 := Keep.ofBelow kb3
      have hT3 := HT.out.still k3
      replace hpc := cell_keep hpc k3 (fun h => h)
      have pm : 0 ≤ p.tmod 5 ∧ p.tmod 5 < 5 := ⟨Int.tmod_nonneg _ HP.out.1, Int.tmod_lt_of_pos _ (by omega)⟩
      have HA := Lib.hid (all_tasks c I2 v3 ls (1 + p.tmod 5) M H 4 w3 hI2 hT3.set.cells hT3.set.perms ⟨by omega, by omega⟩)
      clear HF hcell hI hIl hIb i0
      go_upto_region 11 with (first
        | (go_at_call 22; refine HA.out.mono ?_; rintro e w4 ⟨t, Q, rfl, hTk, hQ, kb4⟩; have hr8 := ownsRow_keep (ownsRow_keep HR.out.r8 k3) (Keep.ofBelow (Q := fun _ => False) kb4); have hb3 := kb3.size; have hb4 := kb4.size)
        | (at_builtin; refine wpList_append_own2 _ rfl _ _ 53 rfl w.heap.size 56 p0 (.pointer none) 1 8 Try.underlying53 hp0 hp1 hp2 hp3 rfl (by decide) _ _ _ rfl (hr8.alloc _) ⟨w4.heap.size, 0, none⟩ 1 1 [ptrV t] rfl rfl (cell_one_new _ _ _) (by simp [Value.oneCell']) (by unfold maxLen; omega) (by omega) (by simp; omega) (by omega) ?_; intro g8 c8 w5 hr85 hgr8 hg8))
      have k5 := grown_keep hgr8
      replace hgr8 : Keep (fun b => u8.ownBlock = some b) w4 w5 := k5
      replace hg8 : u8.ownBlock = some g8 ∨ w4.heap.size + 1 ≤ g8 := by
        have h : u8.ownBlock = some g8 ∨ (w4.alloc (.cells #[ptrV t] 56)).heap.size ≤ g8 := hg8
        simpa using h
      clear k5
      have hb5 := hgr8.size
      have o8 : ∀ g, u8.ownBlock = some g → lab g = 40 ∧ g < wr.heap.size := fun g h => ⟨HR.out.l8 g h, (row_lt HR.out.r8 h).1⟩
      have o9 : ∀ g, u9.ownBlock = some g → lab g = 40 ∧ g < wr.heap.size := fun g h => ⟨HR.out.l9 g h, (row_lt HR.out.r9 h).1⟩
      have nI : lab I2 ≠ 40 := by
        rcases hI2d with h | h
        · intro e
          have := (HT.out.all I2 (by omega)).2
          omega
        · omega
      have iI : I2 < w3.heap.size := by
        rcases hI2d with h | h
        · exact h.2
        · have := (HT.out.all I2 (by omega)).2
          omega
      have hI5 := (hI2.keep (Keep.ofBelow (Q := fun _ => False) kb4) (fun h => h)).keep hgr8 (fun h => nI (o8 _ h).1)
      have HN := Lib.hid (rnew_any I2 v3 ls w5 hI5 (by omega))
      have hr95 := row_ownkeep (ownsRow_keep (ownsRow_keep HR.out.r9 k3) (Keep.ofBelow (Q := fun _ => False) kb4)) hgr8 (fun g h9 h8 => rows_apart HR.out.r8 HR.out.r9 (by decide) g h8 h9)
      clear hI5 HA hr8
      go_upto_region 12 with (first
        | (go_at_call 23; refine HN.out.mono ?_; rintro e w6 ⟨rfl, hRT, kb6⟩; have hr96 := ownsRow_keep hr95 (Keep.ofBelow (Q := fun _ => False) kb6); have hb6 := kb6.size)
        | (at_builtin; refine wpList_append_own2 _ rfl _ _ 54 rfl w.heap.size 58 q0 (.pointer none) 1 8 Try.underlying54 hq0 hq1 hq2 hq3 rfl (by decide) _ _ _ rfl (hr96.alloc _) ⟨w6.heap.size, 0, none⟩ 1 1 [ptrV w5.heap.size] rfl rfl (cell_one_new _ _ _) (by simp [Value.oneCell']) (by unfold maxLen; omega) (by omega) (by simp; omega) (by omega) ?_; intro g9 c9 w7 hr97 hgr9 hg9))
      have k7 := grown_keep hgr9
      replace hgr9 : Keep (fun b => u9.ownBlock = some b) w6 w7 := k7
      replace hg9 : u9.ownBlock = some g9 ∨ w6.heap.size + 1 ≤ g9 := by
        have h : u9.ownBlock = some g9 ∨ (w6.alloc (.cells #[ptrV w5.heap.size] 58)).heap.size ≤ g9 := hg9
        simpa using h
      clear k7
      have hb7 := hgr9.size
      have g8lt := (row_lt hr85 (g := g8) rfl).1
      have g9lt := (row_lt hr97 (g := g9) rfl).1
      have hr86 := ownsRow_keep hr85 (Keep.ofBelow (Q := fun _ => False) kb6)
      have hr87 := row_ownkeep hr86 hgr9 (fun g h8 h9 => rows_apart hr86 hr96 (by decide) g h8 h9)
      have kA : Keep (fun b => u8.ownBlock = some b ∨ u9.ownBlock = some b) wr w7 :=
        (((((Keep.refl _ _).step k3 (fun _ _ h => h.elim)).step (Keep.ofBelow (Q := fun _ => False) kb4) (fun _ _ h => h.elim)).step hgr8 (fun _ _ h => Or.inl h)).step (Keep.ofBelow (Q := fun _ => False) kb6) (fun _ _ h => h.elim)).step hgr9 (fun _ _ h => Or.inr h)
      have hTlt := hTk.lt
      have hT7 := ((hTk.keep hgr8 (fun b hb h => by have := hQ b hb; have := (o8 b h).2; omega)).keep (Keep.ofBelow (Q := fun _ => False) kb6) (fun _ _ h => h)).keep hgr9 (fun b hb h => by have := hQ b hb; have := (o9 b h).2; omega)
      have hT6lt := (hRT.own.choose_spec.1).lt
      have hR7 := hRT.keep hgr9 (fun h => by have := (o9 _ h).2; omega) (fun h => nI (o9 _ h).1)
      obtain ⟨lab2, hTr, l81, l91, hlab⟩ := HT.out.add (by omega) kA (fun b hb => hb.elim (fun h => (o8 b h).1) (fun h => (o9 b h).1)) ⟨t, w5.heap.size, I2, Q, ls, (onS ls 0).1, (onS ls 0).2, (onS ls 0).1, (onS ls 0).2⟩ hT7 (fun b hb => by have := hQ b hb; omega) hR7 ⟨by show _ ≤ w5.heap.size; omega, by show w5.heap.size < _; omega⟩
        (hI2d.imp (fun h => ⟨h.1, by show I2 < _; omega⟩) (fun h => h)) ⟨fun h => by have : w5.heap.size < w4.heap.size := hTlt _ h; omega, fun h => by have : w3.heap.size ≤ I2 := hQ _ h; omega⟩ g8 g9
        (hg8.imp (fun h => (o8 _ h).1) (fun h => ⟨by omega, by omega, fun hq => by have := hTlt _ hq; omega, by show g8 ≠ w5.heap.size; omega, by show g8 ≠ I2; omega⟩))
        (hg9.imp (fun h => (o9 _ h).1) (fun h => ⟨by omega, by omega, fun hq => by have := hTlt _ hq; omega, by show g9 ≠ w5.heap.size; omega, by show g9 ≠ I2; omega⟩)) hlt
      have hk7 : hTr.few = hTr.few := rfl
      have e8 := hr87.cellAt L.length (by omega)
      have e9 := hr97.cellAt L.length (by omega)
      have e8' : w7.cell? ⟨g8, L.length, none⟩ = some (ptrV t) := by rw [e8]; simp
      have e9' : w7.cell? ⟨g9, L.length, none⟩ = some (ptrV w5.heap.size) := by rw [e9]; simp
      obtain ⟨z1, z2, z3, z4, z5⟩ := hTr.tasks L.length ⟨t, w5.heap.size, I2, Q, ls, (onS ls 0).1, (onS ls 0).2, (onS ls 0).1, (onS ls 0).2⟩ (by simp)
      dsimp only at z1 z2
      have HAl := Lib.hid fun W (hk : Keep (fun _ => False) w7 W) => alike_any c t w5.heap.size I2 Q ls (onS ls 0).1 (onS ls 0).2 M H 4 0 W (z1.keep hk (fun _ _ h => h)) (z2.keep hk (fun h => h) (fun h => h)) (hTr.set.still hk)
      have B7 : Below w.heap.size w w7 := hB.trans (kA.below hbs (fun b _ hb => by
        rcases hb with hb | hb
        · exact (HT.out.all b (by rw [(o8 b hb).1]; omega)).1
        · exact (HT.out.all b (by rw [(o9 b hb).1]; omega)).1))
      have X7 := HX.out.keep kA (fun hb => by
        rcases hb with hb | hb
        · have := (o8 _ hb).1; omega
        · have := (o9 _ hb).1; omega)
      have HT7 := Lib.hid hTr
      have HR7 : Hid (Rows2 w7 w.heap.size (L ++ [⟨t, w5.heap.size, I2, Q, ls, (onS ls 0).1, (onS ls 0).2, (onS ls 0).1, (onS ls 0).2⟩]) lab2 (.slice (some ⟨g8, 0, none⟩) (L.length + 1) c8) (.slice (some ⟨g9, 0, none⟩) (L.length + 1) c9)) := Lib.hid ⟨by simpa using hr87, by simpa using hr97, fun g h => by rw [← own_some h]; exact l81, fun g h => by rw [← own_some h]; exact l91⟩
      clear hk7 e8 e9 z1 z2 z3 z4 z5 hTr hT7 hR7 hRT hTk hr85 hr86 hr87 hr95 hr96 hr97 HT HR HX HN hI2 hT3 l81 l91
      have i0 : 0 ≤ (L.length : Int) ∧ (L.length : Int) < 3 := by omega
      have i1 : (L.length : Int) < (L.length : Int) + 1 := by omega
      go_still_tail 10, (by kernel_rfl)
      change wpList _ _ _ _ _ w7.drew
      have kd : Keep (fun _ => False) w7 w7.drew := (Keep.refl _ _).drew
      clear e8' e9'
      go_wp2_with (go_at_call 24; refine (HAl.out _ kd).mono ?_; rintro e w8 ⟨rfl, k8⟩)
      go_roundw
      case rel =>
        have kf := kd.trans k8
        refine ⟨_, lab2, ?_, ?_, HT7.out.still kf, ?_, ⟨ownsRow_keep HR7.out.r8 kf, ownsRow_keep HR7.out.r9 kf, HR7.out.l8, HR7.out.l9⟩, (hlab _ (by omega)).trans hlz, X7.keep kf (fun h => h), B7.trans (kf.below (by have := B7.size; omega) (fun _ _ h => h.elim))⟩
        · simp; omega
        · simp
        · intro y hy
          rcases List.mem_append.1 hy with hy | hy
          · exact hE y hy
          · obtain rfl := List.mem_singleton.1 hy
            exact ⟨rfl, rfl⟩
      case measure => simp [intOf]; omega
    · have hL3 : L.length = 3 := by omega
      clear HM HH H0 H1 H2 HP hX hxl n0p
      have hst := Lib.hid fun W (hk : Keep (fun _ => False) wr W) => steps_any c.C c.S M 4 W (hT.set.cells.keep hk (fun h => h) (fun h => h))
      go_upto_region 15 with (go_at_call 25; refine (hst.out _ (Keep.refl _ _)).mono ?_; rintro e w1 ⟨rfl, rfl⟩)
      clear hst
      go_wp2
      go_loopw [13] (fun i wr => ∃ (j : Nat) (L : List Rec) (lab : Nat → Nat) (m : List Int) (ps : List Bool) (kk n : Int), j ≤ 150 ∧ j ≤ pl ∧ i = .int .i64 j ∧ L.length = 3 ∧ Trio w.heap.size wr c L lab m m ps ps kk n ∧ Even L ∧ Rows2 wr w.heap.size L lab u8 u9 ∧ 4 ≤ kk ∧ kk ≤ 4 + j ∧ n = kk - 4 ∧ Below w.heap.size w wr) (fun i wr => 150 - (intOf i).toNat)
      case atStart => exact ⟨0, L, lab, M, H, 4, 0, by omega, by omega, rfl, hL3, hT, hE, hR, by omega, by omega, by omega, hB⟩
      case round =>
        clear hT hR hlz hB hE hL3 hL hlt
        obtain ⟨j, L, lab, m, ps, kk, n, hj, hjl, rfl, hL3, hT, hE, hR, hk4, hk5, rfl, hB⟩ := hrel
        have hbs := hB.size
        by_cases hlt : j < pl ∧ j < 150
        · obtain ⟨hl1, hl2⟩ := hlt
          obtain ⟨pb, po, rfl, hpb, K, D, G, hK, hD, g0, g1, g2⟩ := HPk.out j hl1
          replace g0 := (hB.cell (p := ⟨pb, po + j * 3, none⟩) hpb).trans g0
          replace g1 := (hB.cell (p := ⟨pb, po + j * 3 + 1, none⟩) hpb).trans g1
          replace g2 := (hB.cell (p := ⟨pb, po + j * 3 + 2, none⟩) hpb).trans g2
          obtain ⟨kN, hkN⟩ : ∃ kN : Nat, K.tmod 3 = kN := Int.eq_ofNat_of_zero_le (Int.tmod_nonneg _ hK.1)
          have hkN3 : kN < 3 := by have := Int.tmod_lt_of_pos K (show (0 : Int) < 3 by omega); omega
          have HT := Lib.hid hT
          have HR := Lib.hid hR
          have i0 : 0 ≤ (j : Int) ∧ (j : Int) < pl := by omega
          have i1 : (j : Int) < 150 := by omega
          clear hT hR HPk
          go_upto_region 19 with fail
          obtain ⟨x, hx⟩ : ∃ x, L[kN]? = some x := ⟨L[kN]'(by omega), by simp⟩
          obtain ⟨z1, z2, z3, z4, z5⟩ := HT.out.tasks kN x hx
          obtain ⟨e1, e2⟩ := hE x (List.mem_of_getElem? hx)
          obtain ⟨g8, c8, rfl⟩ := row_slice HR.out.r8 (by omega)
          obtain ⟨g9, c9, rfl⟩ := row_slice HR.out.r9 (by omega)
          have r8 : wr.cell? ⟨g8, kN, none⟩ = some (ptrV x.t) := by rw [HR.out.r8.cellAt kN (by omega)]; simp [hx]
          have r9 : wr.cell? ⟨g9, kN, none⟩ = some (ptrV x.T) := by rw [HR.out.r9.cellAt kN (by omega)]; simp [hx]
          have l8 := HR.out.l8 g8 rfl
          have l9 := HR.out.l9 g9 rfl
          have hq3 := HT.out.set.ref.few.2
          have HL3 := Lib.hid hL3
          have kn0 : 0 ≤ (kN : Int) := by omega
          have kn3 : (kN : Int) < (L.length : Int) := by omega
          clear hL3
          cases G
          · obtain ⟨dd, hdd⟩ : ∃ dd : Int, D % 4 = dd := ⟨_, rfl⟩
            have hst := Lib.hid (steps_any c.C c.S m kk wr HT.out.set.cells)
            rw [e1, e2] at z2
            by_cases hc : canS ps x.r dd = false
            · have A1 := Lib.hid fun W (hk : Keep (fun _ => False) wr W) => tstep_no c x.t x.Q x.r x.v ps dd W (z1.keep hk (fun _ _ h => h)) (HT.out.set.perms.keep hk (fun h => h) (fun h => h) (fun _ _ h => h)) hq3 hc
              have A2 := Lib.hid fun W (hk : Keep (fun _ => False) wr W) => rstep_no x.T x.I c.D c.W c.V x.l x.r x.v dd (kk - 4) m ps W (z2.keep hk (fun h => h) (fun h => h)) (HT.out.set.ref.keep hk (fun h => h) (fun h => h) (fun h => h)) hc
              have A3 := Lib.hid fun W (hk : Keep (fun _ => False) wr W) => alike_any c x.t x.T x.I x.Q x.l x.r x.v m ps kk (kk - 4) W (z1.keep hk (fun _ _ h => h)) (z2.keep hk (fun h => h) (fun h => h)) (HT.out.set.still hk)
              have A4 := Lib.hid fun W (hk : Keep (fun _ => False) wr W) => steps_any c.C c.S m kk W (HT.out.set.cells.keep hk (fun h => h) (fun h => h))
              have k0 : Keep (fun _ => False) wr wr := Keep.refl _ _
              clear z1 z2 z3 z4 z5 hc e1 e2
              go_upto_region 24 with (go_at_call 25; refine hst.out.mono ?_; rintro e w1 ⟨rfl, rfl⟩)
              have sK : ∀ W, Keep (fun _ => False) wr W → W.cell? ⟨g8, kN, none⟩ = some (ptrV x.t) ∧ W.cell? ⟨g9, kN, none⟩ = some (ptrV x.T) := fun W hk => ⟨cell_keep r8 hk (fun h => h), cell_keep r9 hk (fun h => h)⟩
              have SK := Lib.hid sK
              clear sK r8 r9 hst
              replace k0 := k0.drew
              go_region_held3 (fun W => W.cell? ⟨g8, kN, none⟩ = some (ptrV x.t) ∧ W.cell? ⟨g9, kN, none⟩ = some (ptrV x.T)) (exact SK.out _ (by assumption)) (first
                | (go_at_call 27; refine (A1.out _ (by assumption)).mono ?_; rintro e w2 ⟨rfl, k2⟩; replace k0 := k0.trans k2)
                | (go_at_call 28; refine (A2.out _ (by assumption)).mono ?_; rintro e w3 ⟨rfl, k3⟩; replace k0 := k0.trans k3)
                | (go_at_call 24; refine (A3.out _ (by assumption)).mono ?_; rintro e w4 ⟨rfl, k4⟩; replace k0 := k0.trans k4)
                | (go_at_call 25; refine (A4.out _ (by assumption)).mono ?_; rintro e w5 ⟨rfl, rfl⟩))
              go_wp2
              go_roundw
              case rel =>
                refine ⟨j + 1, L, lab, m, ps, kk, kk - 4, by omega, by omega, by go_num, HL3.out, HT.out.still k0, hE, ⟨?_, ?_, HR.out.l8, HR.out.l9⟩, hk4, by omega, rfl, hB.trans (k0.below hbs (fun _ _ h => h.elim))⟩
                · exact ownsRow_keep HR.out.r8 k0
                · exact ownsRow_keep HR.out.r9 k0
              case measure => simp [intOf]; omega
            · replace hc : canS ps x.r dd = true := by simpa using hc
              obtain ⟨i1, i2, i3, i4, i5, i6, i7, i8⟩ := HT.out.ids
              obtain ⟨M', P', R', V', hsp⟩ : ∃ M' P' R' V', stepS m ps x.r x.v dd = (M', P', R', V') := ⟨_, _, _, _, rfl⟩
              obtain ⟨cnt, hcn, hc0, hc1⟩ : ∃ cnt, stepCount m x.r = cnt ∧ 0 ≤ cnt ∧ cnt ≤ 1 := ⟨_, rfl, stepCount_le m x.r⟩
              have of1 : ∀ b, OfStep c x.Q b → lab b ≠ 40 ∧ lab b ≠ 0 := fun b hb => by
                rcases hb with hb | (rfl | rfl) | hb
                · have := z3 b hb; omega
                · omega
                · omega
                · have := i5 b hb; omega
              have of2 : ∀ b, (b = x.T ∨ b = c.D ∨ b = c.W ∨ b = c.V) → lab b ≠ 40 ∧ lab b ≠ 0 := fun b hb => by
                rcases hb with rfl | rfl | rfl | rfl <;> omega
              have A1 := Lib.hid fun W (hk : Keep (fun _ => False) wr W) => tstep_yes c x.t x.Q x.r x.v m ps dd kk W (z1.keep hk (fun _ _ h => h)) (HT.out.set.cells.keep hk (fun h => h) (fun h => h)) (HT.out.set.perms.keep hk (fun h => h) (fun h => h) (fun _ _ h => h))
                (fun b hb => by
                  have := z3 b hb
                  exact ⟨fun e => by rw [e] at this; omega, fun e => by rw [e] at this; omega, fun e => by rw [e] at this; omega, fun e => by rw [e] at this; omega, fun hc => by have := i5 b hc; omega⟩) HT.out.set.ref.few.1 hq3 hc (by omega)
              simp only [hsp, hcn] at A1
              have hw0 : w.heap.size ≤ wr.heap.size := hbs
              have S1 := Lib.hid fun W w2 Q' (hk : Keep (fun _ => False) wr W) (h1 : TaskAt w2 c x.t Q' R' V') (h2 : ∀ b, Q' b → x.Q b ∨ W.heap.size ≤ b) (h3 : CellsAt w2 c.C c.S M' (kk + cnt)) (h4 : PermitsAt w2 c.P c.R c.cs P') (h5 : Keep (OfStep c x.Q) W w2) =>
                show ∃ lab1, Trio w.heap.size w2 c (L.set kN { x with Q := Q', r := R', v := V' }) lab1 M' m P' ps (kk + cnt) (kk - 4) ∧ (∀ b, lab b ≠ 0 → lab1 b = lab b) ∧ Below w.heap.size wr w2 ∧ w2.cell? ⟨g8, kN, none⟩ = some (ptrV x.t) ∧ w2.cell? ⟨g9, kN, none⟩ = some (ptrV x.T) ∧
                  w2.ownsRow w.heap.size 56 1 (.slice (some ⟨g8, 0, none⟩) L.length c8) L.length (L.map fun x => ptrV x.t) ∧ w2.ownsRow w.heap.size 58 1 (.slice (some ⟨g9, 0, none⟩) L.length c9) L.length (L.map fun x => ptrV x.T) from by
                  obtain ⟨lab1, t1, t2, t3⟩ := (HT.out.still hk).stepT hx (by have := hk.size; omega) h1 h2 h3 h4 h5
                  have n8 : ¬ OfStep c x.Q g8 := fun h => (of1 _ h).1 l8
                  have n9 : ¬ OfStep c x.Q g9 := fun h => (of1 _ h).1 l9
                  exact ⟨lab1, t1, t2, (hk.below hw0 (fun _ _ h => h.elim)).trans t3, cell_keep (cell_keep r8 hk (fun h => h)) h5 n8, cell_keep (cell_keep r9 hk (fun h => h)) h5 n9,
                    row_ownkeep (ownsRow_keep HR.out.r8 hk) h5 (fun g hg => by rw [← own_some hg]; exact n8), row_ownkeep (ownsRow_keep HR.out.r9 hk) h5 (fun g hg => by rw [← own_some hg]; exact n9)⟩
              have A2 := Lib.hid fun w2 lab1 Q' (T1 : Trio w.heap.size w2 c (L.set kN { x with Q := Q', r := R', v := V' }) lab1 M' m P' ps (kk + cnt) (kk - 4)) (hl1 : ∀ b, lab b ≠ 0 → lab1 b = lab b) (hb2 : w.heap.size ≤ w2.heap.size) (r81 : w2.cell? ⟨g8, kN, none⟩ = some (ptrV x.t)) (r91 : w2.cell? ⟨g9, kN, none⟩ = some (ptrV x.T))
                  (o81 : w2.ownsRow w.heap.size 56 1 (.slice (some ⟨g8, 0, none⟩) L.length c8) L.length (L.map fun x => ptrV x.t)) (o91 : w2.ownsRow w.heap.size 58 1 (.slice (some ⟨g9, 0, none⟩) L.length c9) L.length (L.map fun x => ptrV x.T)) =>
                show Calls Try.prog 28 #[ptrV x.T, ptrV c.D, .int .i64 dd] w2 fun e w3 => e = .returned (.bool true) ∧ Trio w.heap.size w3 c (L.set kN { x with Q := Q', r := R', v := V', r2 := R', v2 := V' }) lab1 M' M' P' P' (kk + cnt) (kk - 4 + cnt) ∧ Below w.heap.size w2 w3 ∧ w3.cell? ⟨g8, kN, none⟩ = some (ptrV x.t) ∧ w3.cell? ⟨g9, kN, none⟩ = some (ptrV x.T) ∧
                  w3.ownsRow w.heap.size 56 1 (.slice (some ⟨g8, 0, none⟩) L.length c8) L.length (L.map fun x => ptrV x.t) ∧ w3.ownsRow w.heap.size 58 1 (.slice (some ⟨g9, 0, none⟩) L.length c9) L.length (L.map fun x => ptrV x.T) from by
                  have hlt : kN < L.length := (List.getElem?_eq_some_iff.1 hx).1
                  have hx1 : (L.set kN { x with Q := Q', r := R', v := V' })[kN]? = some { x with Q := Q', r := R', v := V' } := List.getElem?_set_self hlt
                  obtain ⟨y1, y2, y3, y4, y5⟩ := T1.tasks kN _ hx1
                  dsimp only at y2 y4 y5
                  rw [e1, e2] at y2
                  have lT := z4
                  have lI := z5
                  refine (rstep_yes x.T x.I c.D c.W c.V x.l x.r x.v dd (kk - 4) m ps w2 y2 T1.set.ref ⟨fun e => by rw [e] at lT; omega, fun e => by rw [e] at lT; omega, fun e => by rw [e] at lT; omega, fun e => by rw [e] at lI; omega, fun e => by rw [e] at lI; omega, fun e => by rw [e] at lI; omega⟩ hc (by omega)).mono ?_
                  rintro e w3 ⟨rfl, q1, q2, q3⟩
                  simp only [hsp, hcn] at q1 q2
                  obtain ⟨t2, b2⟩ := T1.stepR hx1 hb2 q1 q2 q3
                  have m8 : ¬ (g8 = x.T ∨ g8 = c.D ∨ g8 = c.W ∨ g8 = c.V) := fun h => (of2 _ h).1 l8
                  have m9 : ¬ (g9 = x.T ∨ g9 = c.D ∨ g9 = c.W ∨ g9 = c.V) := fun h => (of2 _ h).1 l9
                  rw [List.set_set] at t2
                  exact ⟨rfl, t2, b2, cell_keep r81 q3 m8, cell_keep r91 q3 m9, row_ownkeep o81 q3 (fun g hg => by rw [← own_some hg]; exact m8), row_ownkeep o91 q3 (fun g hg => by rw [← own_some hg]; exact m9)⟩
              have A3 := Lib.hid fun w3 lab1 Q' (T2 : Trio w.heap.size w3 c (L.set kN { x with Q := Q', r := R', v := V', r2 := R', v2 := V' }) lab1 M' M' P' P' (kk + cnt) (kk - 4 + cnt)) =>
                show Calls Try.prog 24 #[ptrV x.t, ptrV x.T, cellsV c.C, ptrV c.D] w3 fun e w' => e = .returned (.bool true) ∧ Keep (fun _ => False) w3 w' from by
                  have hlt : kN < L.length := (List.getElem?_eq_some_iff.1 hx).1
                  obtain ⟨y1, y2, y3, y4, y5⟩ := T2.tasks kN _ (List.getElem?_set_self hlt)
                  exact alike_any c x.t x.T x.I Q' x.l R' V' M' P' (kk + cnt) (kk - 4 + cnt) w3 y1 y2 T2.set
              have hwr : IntKind.i64.wrap (kk + cnt - kk) = cnt := by rw [IntKind.wrap_i64]; omega
              have kd : Keep (fun _ => False) wr wr.drew := (Keep.refl _ _).drew
              have r8d := cell_keep r8 kd (fun h => h)
              have r9d := cell_keep r9 kd (fun h => h)
              clear z1 z2 z3 z4 z5 i1 i2 i3 i4 i5 i6 i7 i8 hc hsp hcn e1 e2 of1 of2 r8 r9
              go_upto_region 24 with (go_at_call 25; refine hst.out.mono ?_; rintro e w1 ⟨rfl, rfl⟩)
              clear hst
              go_region_held3 (fun W => W.cell? ⟨g8, kN, none⟩ = some (ptrV x.t) ∧ W.cell? ⟨g9, kN, none⟩ = some (ptrV x.T)) (first | exact ⟨r84, r94⟩ | exact ⟨r82, r92⟩ | exact ⟨r81, r91⟩ | exact ⟨r8d, r9d⟩) (first
                | (go_at_call 27; refine (A1.out _ kd).mono ?_; rintro e w2 ⟨rfl, ⟨Q', hT2, hQ2⟩, hC2, hP2, kS⟩; obtain ⟨lab1, T1, L1, B1, r81, r91, o81, o91⟩ := S1.out _ _ _ kd hT2 hQ2 hC2 hP2 kS; clear hT2 hQ2 hC2 hP2 kS)
                | (go_at_call 28; refine (A2.out _ _ _ T1 L1 (Nat.le_trans hw0 B1.size) r81 r91 o81 o91).mono ?_; rintro e w3 ⟨rfl, T2, B2, r82, r92, o82, o92⟩)
                | (go_at_call 24; refine (A3.out _ _ _ T2).mono ?_; rintro e w4 ⟨rfl, k4⟩; have r84 := cell_keep r82 k4 (fun h => h); have r94 := cell_keep r92 k4 (fun h => h))
                | (go_at_call 25; refine (steps_any c.C c.S M' (kk + cnt) _ (T2.set.cells.keep k4 (fun h => h) (fun h => h))).mono ?_; rintro e w5 ⟨rfl, rfl⟩))
              go_wp2
              go_roundw
              case rel =>
                have hlt : kN < L.length := (List.getElem?_eq_some_iff.1 hx).1
                obtain ⟨m1, m2⟩ := map_set_t (L := L) (i := kN) (x := x) (y := { x with Q := Q', r := R', v := V', r2 := R', v2 := V' }) hx rfl rfl
                refine ⟨j + 1, L.set kN { x with Q := Q', r := R', v := V', r2 := R', v2 := V' }, lab1, M', P', kk + cnt, kk - 4 + cnt, by omega, by omega, by go_num, by rw [List.length_set]; exact HL3.out, T2.still k4, even_set hE _ _ ⟨rfl, rfl⟩, ⟨?_, ?_, fun g hg => ?_, fun g hg => ?_⟩, by omega, by omega, by omega, ((hB.trans B1).trans B2).trans (k4.below (by have := B1.size; have := B2.size; omega) (fun _ _ h => h.elim))⟩
                · rw [List.length_set, m1]; exact ownsRow_keep o82 k4
                · rw [List.length_set, m2]; exact ownsRow_keep o92 k4
                · rw [← own_some hg, L1 g8 (by omega)]; exact l8
                · rw [← own_some hg, L1 g9 (by omega)]; exact l9
              case measure => simp [intOf]; omega
          · obtain ⟨bb, hbb⟩ : ∃ bb, ps[kN]? = some bb := ⟨ps[kN]'(by omega), by simp⟩
            have hgv := Lib.hid (give_any c.P c.R c.cs ps kN bb wr HT.out.set.perms hbb)
            clear z1 z2 z3 z4 z5 e1 e2 r8 r9
            go_upto_region 21 with (go_at_call 26; refine hgv.out.mono ?_; rintro e w2 ⟨rfl, hP2, kP⟩)
            obtain ⟨T1, B1⟩ := HT.out.give hbs hP2 kP
            obtain ⟨i1, i2, i3, i4, i5, i6, i7, i8⟩ := HT.out.ids
            have o81 := row_ownkeep HR.out.r8 kP (fun g hg hq => by have := i5 g hq; rw [← own_some hg] at this; omega)
            have o91 := row_ownkeep HR.out.r9 kP (fun g hg hq => by have := i5 g hq; rw [← own_some hg] at this; omega)
            obtain ⟨cp, hO⟩ := T1.set.ref.own
            have d2 : w2.cell? ⟨c.D, 2, none⟩ = some (.slice (some ⟨c.V, 0, none⟩) ps.length ps.length) := hO.cell 2 _ rfl
            have v0 := T1.set.ref.perms.cell kN _ (permV_at hbb)
            have vz := T1.set.ref.perms.free kN
            rw [hq3] at d2
            have kn4 : (kN : Int) < 3 := by omega
            obtain ⟨T2, B2⟩ := T1.grant (Nat.le_trans hbs B1.size) kN true
            simp only [if_true, ↓reduceIte] at T2 B2
            have kV : Keep (fun b => b = c.V) w2 (w2.setCell ⟨c.V, kN, none⟩ (.int .i64 1)) := (Keep.refl (fun b => b = c.V) w2).set (p := ⟨c.V, kN, none⟩) (fun _ => rfl) _
            have HT2 := Lib.hid T2
            have HB := Lib.hid ((hB.trans B1).trans B2)
            have o82 := row_ownkeep o81 kV (fun g hg hq => by rw [← own_some hg] at hq; rw [hq] at l8; omega)
            have o92 := row_ownkeep o91 kV (fun g hg hq => by rw [← own_some hg] at hq; rw [hq] at l9; omega)
            clear hO T1 T2 B1 B2 hP2 kP hgv i1 i2 i3 i4 i5 i6 i7 i8 hbb o81 o91 kV
            go_wp2
            go_roundw
            case rel =>
              exact ⟨j + 1, L, lab, m, ps.set kN true, kk, kk - 4, by omega, by omega, by go_num, HL3.out, HT2.out, hE, ⟨o82, o92, HR.out.l8, HR.out.l9⟩, hk4, by omega, rfl, HB.out⟩
            case measure => simp [intOf]; omega
        · have hst := Lib.hid fun W (hk : Keep (fun _ => False) wr W) => steps_any c.C c.S m kk W (hT.set.cells.keep hk (fun h => h) (fun h => h))
          obtain ⟨cp, hO⟩ := hT.set.ref.own
          have d1 : wr.cell? ⟨c.D, 1, none⟩ = some (.int .i64 (kk - 4)) := hO.cell 1 _ rfl
          have hwr : IntKind.i64.wrap (kk - 4) = kk - 4 := by rw [IntKind.wrap_i64]; omega
          clear hO hT hR HPk
          by_cases hc : j < pl
          · have hc2 : ¬ (j : Int) < 150 := by omega
            have hc3 : (j : Int) < pl := by omega
            go_wp2
            go_quiet (first | (go_at_call 25; exact Calls.quiet_of_same ((hst.out _ ((Keep.refl _ _).drewN _)).mono (by rintro e w1 ⟨rfl, rfl⟩; exact ⟨rfl, rfl⟩))))
            go_wp2
            go_ret
            exact ⟨by simp, hB.trans ((Below.refl w.heap.size wr).trans ⟨rfl, rfl, rfl, Nat.le_refl _, fun _ _ => rfl⟩)⟩
          · have hc2 : ¬ (j : Int) < pl := by omega
            go_wp2
            go_quiet (first | (go_at_call 25; exact Calls.quiet_of_same ((hst.out _ ((Keep.refl _ _).drewN _)).mono (by rintro e w1 ⟨rfl, rfl⟩; exact ⟨rfl, rfl⟩))))
            go_wp2
            go_ret
            exact ⟨by simp, hB.trans ((Below.refl w.heap.size wr).trans ⟨rfl, rfl, rfl, Nat.le_refl _, fun _ _ => rfl⟩)⟩
end Go.Proofs.Ytmkgbbbhmbejnaa
