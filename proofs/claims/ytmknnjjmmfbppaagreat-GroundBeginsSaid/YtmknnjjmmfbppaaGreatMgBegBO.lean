/- Package pool: Lay. -/
import Derived.Test.YtmknnjjmmfbppaaGreatMgBegBL
import Derived.Test.YtmknnjjmmfbppaaGreatMgBegBM
import Derived.Test.YtmknnjjmmfbppaaGreatMgBegBN
import Derived.Test.YtmknnjjmmfbppaaGreatMgBegAD
import Derived.LoopTactic
import Derived.Test.YtmknnjjmmfbppaaGreatMgBegAE
import Derived.Test.YtmknnjjmmfbppaaGreatMgBegAF
import Derived.Test.YtmknnjjmmfbppaaGreatMgBegAG
namespace Go.Proofs.YtmknnjjmmfbppaaGreat.Re
open Go.ChangeShapes Go.WideShapes Go.ChangeAt Go.RowKit
set_option linter.unusedVariables false
set_option maxRecDepth 100000
set_option linter.unusedSimpArgs false
def bhN (n j : Nat) : Int := if j = 0 then 0 else (n : Int) - j + 1
def layGo (m : Mp) (mm : List Int) : Nat → List Int
  | 0 => mm
  | j + 1 => (layGo m mm j).set (linkN m ((m.n : Int) - 1 - j)) (bhN m.n j)
def layL (m : Mp) (mm : List Int) : List Int := (layGo m mm m.n).set 1 (bhN m.n m.n)
theorem layGo_len (m : Mp) (mm : List Int) : ∀ j, (layGo m mm j).length = mm.length
  | 0 => rfl
  | j + 1 => by simp [layGo, layGo_len m mm j]
theorem layL_len (m : Mp) (mm : List Int) : (layL m mm).length = mm.length := by simp [layL, layGo_len]
theorem layGo_other (m : Mp) (mm : List Int) (i : Nat) (h : ∀ k : Int, 0 ≤ k → k < m.n → i ≠ linkN m k) : ∀ j, j ≤ m.n → (layGo m mm j)[i]? = mm[i]?
  | 0, _ => rfl
  | j + 1, hj => by
    rw [layGo, List.getElem?_set_ne (Ne.symm (h _ (by omega) (by omega)))]
    exact layGo_other m mm i h j (by omega)
theorem layGo_link (m : Mp) (mm : List Int) (hs : sizeN m ≤ mm.length) (k : Nat) (hk : k < m.n) : ∀ j, j ≤ m.n → m.n - j ≤ k → (layGo m mm j)[linkN m (k : Int)]? = some (bhN m.n (m.n - 1 - k))
  | 0, _, h => by omega
  | j + 1, hj, h => by
    rw [layGo]
    by_cases e : k = m.n - 1 - j
    · have e2 : (m.n : Int) - 1 - (j : Int) = (k : Int) := by omega
      rw [e2, List.getElem?_set_self (by rw [layGo_len]; have := linkN_lt (m := m) (k := (k : Int)) ⟨by omega, by omega⟩; omega)]
      rw [show m.n - 1 - k = j by omega]
    · rw [List.getElem?_set_ne (fun h2 => e (by have := linkN_inj (m := m) (by omega) (by omega) h2; omega))]
      exact layGo_link m mm hs k hk j (by omega) (by omega)
abbrev mapCs (m : Mp) : Array Value := #[.int .i64 (m.t : Int), .int .i64 (m.o : Int), .int .i64 (m.n : Int)]
theorem map3 {w : World} {b : Nat} {m : Mp} (h : Blk w b 28 (mapCs m)) : w.cell? ⟨b, 0, none⟩ = some (.int .i64 (m.t : Int)) ∧ w.cell? ⟨b, 1, none⟩ = some (.int .i64 (m.o : Int)) ∧ w.cell? ⟨b, 2, none⟩ = some (.int .i64 (m.n : Int)) := ⟨h.cell 0 _ rfl, h.cell 1 _ rfl, h.cell 2 _ rfl⟩
theorem bhN_eq (n j : Nat) (h : 0 < j) : bhN n j = (n : Int) - j + 1 := by unfold bhN; rw [if_neg (by omega)]
set_option maxHeartbeats 4000000 in
theorem lay_any (C S : Nat) (m : Mp) (mm : List Int) (k0 : Int) (w : World) (hm : m.ok) (hC : CellsAt w C S mm k0) (hs : sizeN m ≤ mm.length) (h0 : 0 ≤ k0 ∧ k0 ≤ 1000000) :
    Calls Tryz.prog 101 #[cellsV C, mapV m] w fun e w' => e = .returned (.bool true) ∧ CellsAt w' C S (layL m mm) (k0 + m.n + 1) ∧ Keep (ofCells C S) w w' := by
  have HR := Lib.hid fun V => pright_yes m (mm.length : Int) V hm
  rw [show decide ((sizeN m : Int) ≤ (mm.length : Int)) = true by simp; omega] at HR
  have hmn := hm.n
  have HL := Lib.hid fun V (hV : Below w.heap.size w V) => len_any C S mm k0 V (hC.keep (Keep.ofBelow (Q := fun _ => False) hV) (fun h => h) (fun h => h))
  have HC := Lib.hid hC
  have HM := Lib.hid hm
  have HS := Lib.hid hs
  have hCl := hC.own.lt
  have hSl := hC.row.lt
  clear hC hm hs
  go_enter Tryz.func101, Tryz.ntmps101
  go_upto_region 1 with fail
  generalize hW : (w.alloc _) = W
  have bW : Below w.heap.size w W := by rw [← hW]; go_grown
  have m0 : Blk W w.heap.size 28 (mapCs m) := by rw [← hW]; exact Blk.new w _ _
  clear hW
  have hml := m0.lt
  have SK := Lib.hid (show ∀ V, Below W.heap.size W V → V.cell? ⟨w.heap.size, 0, none⟩ = some (.int .i64 (m.t : Int)) ∧ V.cell? ⟨w.heap.size, 1, none⟩ = some (.int .i64 (m.o : Int)) ∧ V.cell? ⟨w.heap.size, 2, none⟩ = some (.int .i64 (m.n : Int)) from fun V hk => map3 (m0.below hk hml))
  have bd := bdrewP W
  have HL1 := Lib.hid (HL.out W.drew (bW.trans (bd.mono bW.size)))
  go_region_held3 (fun V => V.cell? ⟨w.heap.size, 0, none⟩ = some (.int .i64 (m.t : Int)) ∧ V.cell? ⟨w.heap.size, 1, none⟩ = some (.int .i64 (m.o : Int)) ∧ V.cell? ⟨w.heap.size, 2, none⟩ = some (.int .i64 (m.n : Int))) (first | exact SK.out _ b3 | exact SK.out _ b2 | exact SK.out _ bd) (first
    | (go_at_call 107; refine HL1.out.mono ?_; rintro e w2 ⟨rfl, hb2⟩; have b2 : Below W.heap.size W w2 := bd.trans hb2)
    | (go_at_call 58; refine (HR.out _).mono ?_; rintro e w3 ⟨rfl, hb3⟩; have b3 : Below W.heap.size W w3 := b2.trans (hb3.mono b2.size)))
  have m3 := m0.below b3 hml
  have kW : Keep (ofCells C S) w w3 := (Keep.ofBelow bW).trans (Keep.ofBelow b3)
  have C3 := HC.out.keep (Keep.ofBelow (Q := fun _ => False) (bW.trans (b3.mono bW.size))) (fun h => h) (fun h => h)
  obtain ⟨c0, c1, c2⟩ := map3 m3
  clear m0 SK HL HL1 bd b2 b3 hb2 hb3 bW
  go_wp2_with (go_at_call 170; refine (pmark_any (-1) _ (by omega)).mono ?_; rintro e w4 ⟨rfl, rfl⟩)
  have HM3 := Lib.hid m3
  have HC3 := Lib.hid C3
  have HKW := Lib.hid kW
  clear m3 C3 kW c0 c1 c2
  go_loopw [5, 6] (fun v5 v6 wr => ∃ (j : Nat) (b z : Int), j ≤ m.n ∧ b = bhN m.n j ∧ z = (m.n : Int) - 1 - j ∧ v5 = .int .u64 b ∧ v6 = .int .i64 z ∧ CellsAt wr C S (layGo m mm j) (k0 + j) ∧ Blk wr w.heap.size 28 (mapCs m) ∧ Keep (ofCells C S) w wr)
    (fun _ v6 _ => (intOf v6 + 1).toNat)
  case atStart => exact ⟨0, 0, (m.n : Int) - 1, by omega, rfl, by omega, rfl, rfl, by simpa [layGo] using HC3.out, HM3.out, HKW.out⟩
  case round =>
    obtain ⟨j, b, z, hj, hb, hz, rfl, rfl, hC, hB, hk⟩ := hrel
    obtain ⟨c0, c1, c2⟩ := map3 hB
    have HCr := Lib.hid hC
    have HBr := Lib.hid hB
    have HKr := Lib.hid hk
    by_cases hlt : j < m.n
    · have hzr : 0 ≤ z ∧ z ≤ 5000 := by omega
      have hzn : z < m.n := by omega
      have HX := Lib.hid fun V => link_any m z V HM.out hzr
      have hin : linkN m z < (layGo m mm j).length := by rw [layGo_len]; have := linkN_lt (m := m) ⟨hzr.1, hzn⟩; have := HS.out; omega
      have hbl : w.heap.size < wr.heap.size := hB.lt
      have HST := Lib.hid fun V (hV : Below wr.heap.size wr V) => store_yes C S (layGo m mm j) (k0 + j) (linkN m z) _ b V (HCr.out.keep (Keep.ofBelow (Q := fun _ => False) hV) (fun h => h) (fun h => h)) (List.getElem?_eq_getElem hin) (by omega) (by omega)
      have HK := Lib.hid fun V => pmark_any z V (by omega)
      have Hb := Lib.hid hb
      have Hz := Lib.hid hz
      have HJ := Lib.hid hlt
      clear hC hB hk hb hz hzn hin hlt hj
      go_wp2_with (first
        | (go_at_call 17; refine (HX.out _).mono ?_; rintro e w5 ⟨rfl, b5⟩; have HST2 := Lib.hid (HST.out w5 b5))
        | (go_at_call 40; refine HST2.out.mono ?_; rintro e w6 ⟨rfl, h6, k6⟩)
        | (go_at_call 170; refine (HK.out _).mono ?_; rintro e w7 ⟨rfl, rfl⟩))
      go_roundw
      case rel =>
        have hz := Hz.out
        have hb := Hb.out
        have hlt := HJ.out
        have k56 : Keep (ofCells C S) wr w6 := (Keep.ofBelow b5).trans k6
        refine ⟨j + 1, z + 1, z - 1, hlt, ?_, by omega, rfl, rfl, ?_, HBr.out.keep k56 (fun h => by rcases h with h | h <;> omega), HKr.out.trans k56⟩
        · rw [bhN_eq _ _ (by omega)]
          omega
        · rw [layGo, ← hz, ← hb, Int.natCast_add, ← Int.add_assoc]
          exact h6
      case measure => simp [intOf]; omega
    · obtain rfl : j = m.n := by omega
      have hzr : ¬ (0 ≤ z) := by omega
      have hin : 1 < (layGo m mm m.n).length := by rw [layGo_len]; have := HS.out; unfold sizeN at this; omega
      have HST := Lib.hid fun V (hV : Below wr.heap.size wr V) => (show Calls Tryz.prog 40 #[cellsV C, .int .i64 1, .int .u64 b] V fun e w' => e = .returned (.bool true) ∧ CellsAt w' C S ((layGo m mm m.n).set 1 b) (k0 + m.n + 1) ∧ Keep (ofCells C S) V w' from store_yes C S (layGo m mm m.n) (k0 + m.n) 1 _ b V (HCr.out.keep (Keep.ofBelow (Q := fun _ => False) hV) (fun h => h) (fun h => h)) (List.getElem?_eq_getElem hin) (by omega) (by omega))
      have Hb := Lib.hid hb
      clear hC hB hk hb hz hin hlt hj
      go_wp2_with (first
        | (go_at_call 16; refine (head_any m _).mono ?_; rintro e w5 ⟨rfl, b5⟩; have HST2 := Lib.hid (HST.out w5 b5))
        | (go_at_call 40; refine HST2.out.mono ?_; rintro e w6 ⟨rfl, h6, k6⟩))
      go_ret
      refine ⟨rfl, ?_, HKr.out.trans ((Keep.ofBelow b5).trans k6)⟩
      rw [Hb.out] at h6
      exact h6
end Go.Proofs.YtmknnjjmmfbppaaGreat.Re
/- A ground in memory. -/
namespace Go.Proofs.YtmknnjjmmfbppaaGreat.Re
open Go.ChangeShapes Go.WideShapes Go.ChangeAt Go.RowKit
set_option linter.unusedVariables false
set_option maxRecDepth 100000
set_option linter.unusedSimpArgs false
/-- where a ground's blocks lie -/
structure GrP where
  G : Nat
  C : Nat
  S : Nat
  P : Nat
  R : Nat
  cs : List Nat
abbrev grV (g : GrP) : Value := .pointer (some ⟨g.G, 0, none⟩)
abbrev grA (g : GrP) (m : Mp) (vo : Value) : Array Value := #[.int .i64 (m.t : Int), .int .i64 (m.o : Int), .int .i64 (m.n : Int), cellsV g.C, permitsV g.P, .int .i32 0, .int .u32 0, vo]
/-- the blocks of a ground -/
def grB (g : GrP) (vo : Value) : Nat → Prop := fun b => b = g.G ∨ b = g.C ∨ b = g.S ∨ b = g.P ∨ b = g.R ∨ b ∈ g.cs ∨ vo.ownBlock = some b
structure GrAt (w : World) (g : GrP) (m : Mp) (mm : List Int) (k : Int) (l : List Bool) (vo : Value) (E : List Ev) : Prop where
  own : Blk w g.G 49 (grA g m vo)
  cells : CellsAt w g.C g.S mm k
  perms : PermitsAt w g.P g.R g.cs l
  row : w.ownsRow 0 81 8 vo E.length (E.flatMap evL)
  ok : m.ok
  size : mm.length = sizeN m
  few : l.length = m.t
theorem blk_chan {w : World} {B c : Nat} {t : TypeId} {xs : Array Value} {b : Bool} (h : Blk w B t xs) (hc : ChanAt w c b) : B ≠ c := by
  rintro rfl
  obtain ⟨s, r, hx⟩ := hc
  rw [show w.heap[B]? = _ from h] at hx
  cases hx
section
variable {w w1 : World} {g : GrP} {m : Mp} {mm mm' : List Int} {k k' : Int} {l l' : List Bool} {vo vo' : Value} {E E' : List Ev}
theorem GrAt.chan (h : GrAt w g m mm k l vo E) {c : Nat} (hc : c ∈ g.cs) : ∃ b, ChanAt w c b := by
  obtain ⟨i, hi, e⟩ := List.mem_iff_getElem.1 hc
  have hl := h.perms.len
  exact ⟨l[i]'(by omega), h.perms.chan i c _ (by rw [List.getElem?_eq_getElem hi, e]) (by simp)⟩
theorem GrAt.lt (h : GrAt w g m mm k l vo E) {b : Nat} (hb : grB g vo b) : b < w.heap.size := by
  rcases hb with rfl | rfl | rfl | rfl | rfl | hb | hb
  · exact h.own.lt
  · exact h.cells.own.lt
  · exact h.cells.row.lt
  · exact h.perms.own.lt
  · exact h.perms.row.lt
  · obtain ⟨x, s, r, hx⟩ := h.chan hb
    exact (Array.getElem?_eq_some_iff.1 hx).1
  · exact (row_lt h.row hb).1
theorem GrAt.keep {F : Nat → Prop} (h : GrAt w g m mm k l vo E) (hk : Keep F w w1) (hF : ∀ b, grB g vo b → ¬ F b) : GrAt w1 g m mm k l vo E :=
  ⟨h.own.keep hk (hF _ (.inl rfl)), h.cells.keep hk (hF _ (.inr (.inl rfl))) (hF _ (.inr (.inr (.inl rfl)))),
    h.perms.keep hk (hF _ (.inr (.inr (.inr (.inl rfl))))) (hF _ (.inr (.inr (.inr (.inr (.inl rfl)))))) (fun c hc => hF _ (.inr (.inr (.inr (.inr (.inr (.inl hc))))))),
    row_ownkeep h.row hk (fun b hb => hF _ (.inr (.inr (.inr (.inr (.inr (.inr hb))))))), h.ok, h.size, h.few⟩
theorem GrAt.below (h : GrAt w g m mm k l vo E) (hb : Below w.heap.size w w1) : GrAt w1 g m mm k l vo E := h.keep (F := fun _ => False) (Keep.ofBelow hb) (fun _ _ h => h)
theorem GrAt.alloc (h : GrAt w g m mm k l vo E) (o : Obj) : GrAt (w.alloc o) g m mm k l vo E := h.below ((Below.refl _ _).alloc (Nat.le_refl _) o)
theorem GrAt.apartG (h : GrAt w g m mm k l vo E) : g.G ≠ g.C ∧ g.G ≠ g.S ∧ g.G ≠ g.P ∧ g.G ≠ g.R ∧ g.G ∉ g.cs ∧ vo.ownBlock ≠ some g.G := by
  refine ⟨h.own.apart h.cells.own (by decide), h.own.apart h.cells.row (by decide), h.own.apart h.perms.own (by decide), h.own.apart h.perms.row (by decide), fun hc => ?_, fun hg => ?_⟩
  · obtain ⟨b, hb⟩ := h.chan hc
    exact blk_chan h.own hb rfl
  · obtain ⟨_, cur, hB⟩ := row_lt h.row hg
    exact hB.apart h.own (by decide) rfl
theorem GrAt.apartV (h : GrAt w g m mm k l vo E) {b : Nat} (hb : vo.ownBlock = some b) : b ≠ g.G ∧ b ≠ g.C ∧ b ≠ g.S ∧ b ≠ g.P ∧ b ≠ g.R ∧ b ∉ g.cs := by
  obtain ⟨_, cur, hB⟩ := row_lt h.row hb
  refine ⟨hB.apart h.own (by decide), hB.apart h.cells.own (by decide), hB.apart h.cells.row (by decide), hB.apart h.perms.own (by decide), hB.apart h.perms.row (by decide), fun hc => ?_⟩
  obtain ⟨x, hx⟩ := h.chan hc
  exact blk_chan hB hx rfl
/-- cells turn -/
theorem GrAt.cells' (h : GrAt w g m mm k l vo E) (hc : CellsAt w1 g.C g.S mm' k') (hk : Keep (ofCells g.C g.S) w w1) (hl : mm'.length = mm.length) : GrAt w1 g m mm' k' l vo E := by
  obtain ⟨a1, a2, a3, a4, a5, a6⟩ := h.apartG
  have hn : ∀ b, b ≠ g.C → b ≠ g.S → ¬ ofCells g.C g.S b := fun b h1 h2 h3 => by rcases h3 with h3 | h3 <;> contradiction
  refine ⟨h.own.keep hk (hn _ a1 a2), hc, h.perms.keep hk (hn _ (h.perms.own.apart h.cells.own (by decide)) (h.perms.own.apart h.cells.row (by decide))) (hn _ (h.perms.row.apart h.cells.own (by decide)) (h.perms.row.apart h.cells.row (by decide))) (fun c hx => ?_), row_ownkeep h.row hk (fun b hb => hn _ (h.apartV hb).2.1 (h.apartV hb).2.2.1), h.ok, hl.trans h.size, h.few⟩
  obtain ⟨x, hx⟩ := h.chan hx
  exact hn _ (fun e => blk_chan h.cells.own hx e.symm) (fun e => blk_chan h.cells.row hx e.symm)
/-- permits turn -/
theorem GrAt.perms' (h : GrAt w g m mm k l vo E) (hp : PermitsAt w1 g.P g.R g.cs l') (hk : Keep (fun b => b ∈ g.cs) w w1) (hl : l'.length = l.length) : GrAt w1 g m mm k l' vo E := by
  obtain ⟨a1, a2, a3, a4, a5, a6⟩ := h.apartG
  have hn : ∀ {B : Nat} {t : TypeId} {xs : Array Value}, Blk w B t xs → ¬ B ∈ g.cs := fun hB hc => by
    obtain ⟨x, hx⟩ := h.chan hc
    exact blk_chan hB hx rfl
  exact ⟨h.own.keep hk a5, h.cells.keep hk (hn h.cells.own) (hn h.cells.row), hp, row_ownkeep h.row hk (fun b hb => (h.apartV hb).2.2.2.2.2), h.ok, h.size, hl.trans h.few⟩
/-- the log turns -/
theorem GrAt.log' (h : GrAt w g m mm k l vo E) (ho : Blk w1 g.G 49 (grA g m vo')) (hr : w1.ownsRow 0 81 8 vo' E'.length (E'.flatMap evL)) (hk : Keep (fun b => b = g.G ∨ vo.ownBlock = some b) w w1) : GrAt w1 g m mm k l vo' E' := by
  obtain ⟨a1, a2, a3, a4, a5, a6⟩ := h.apartG
  have hn : ∀ b, b ≠ g.G → vo.ownBlock ≠ some b → ¬ (b = g.G ∨ vo.ownBlock = some b) := fun b h1 h2 h3 => by rcases h3 with h3 | h3 <;> contradiction
  refine ⟨ho, h.cells.keep hk (hn _ a1.symm fun e => (h.apartV e).2.1 rfl) (hn _ a2.symm fun e => (h.apartV e).2.2.1 rfl), h.perms.keep hk (hn _ a3.symm fun e => (h.apartV e).2.2.2.1 rfl) (hn _ a4.symm fun e => (h.apartV e).2.2.2.2.1 rfl) (fun c hc => hn _ (fun e => a5 (e ▸ hc)) fun e => (h.apartV e).2.2.2.2.2 hc), hr, h.ok, h.size, h.few⟩
end
end Go.Proofs.YtmknnjjmmfbppaaGreat.Re
