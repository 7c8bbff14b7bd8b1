/- A ground's log: Events. -/
import Derived.Test.YtmknnjjmmfbppaaGreatMgBegAH
namespace Go.Proofs.YtmknnjjmmfbppaaGreat
open Go.ChangeShapes Go.WideShapes Go.ChangeAt Go.RowKit Go.Shelf Go.Lib Go.MuLone
set_option linter.unusedVariables false
set_option maxRecDepth 100000
set_option linter.unusedSimpArgs false
theorem row_base {w : World} {B size n g : Nat} {e : TypeId} {v : Value} {xs : List Value} (h : w.ownsRow B e size v n xs) (hg : v.ownBlock = some g) : B ≤ g := by
  rcases h.2 with ⟨rfl, _⟩ | ⟨g0, cap0, cur, rfl, hb, _⟩
  · simp [Value.ownBlock] at hg
  · rw [← own_some hg]
    exact hb
theorem clone_own {w : World} {vo : Value} {E : List Ev} (h : w.ownsRow 0 81 8 vo E.length (E.flatMap evL)) (hE : E.length ≤ 1000000) :
    Calls Tryz.prog 112 #[vo] w fun e w' => ∃ v', e = .returned v' ∧ w'.ownsRow w.heap.size 81 8 v' E.length (E.flatMap evL) ∧ Below w.heap.size w w' := by
  have h2 := h.2
  rcases h2 with ⟨rfl, h0⟩ | ⟨g0, cap0, cur, rfl, _, hh, hnc, hcm, _⟩
  · refine (AnyE.slices_Clone_nil Tryz.lcloneE 0 0 w).mono ?_
    rintro e w' ⟨rfl, rfl⟩
    have : E = [] := List.eq_nil_of_length_eq_zero h0
    subst this
    exact ⟨_, rfl, World.ownsRow_nil _ _ _ _, Below.refl _ _⟩
  · refine gclone_any g0 E.length cap0 (E.flatMap evL) w (evs_len E) hE (fun j u hu => ?_) (evs_one E)
    have := h.cells (g := g0) rfl j u hu
    rw [Nat.zero_add]
    have e1 : ((⟨g0, 0, none⟩ : Addr).add j) = ⟨g0, j, none⟩ := by unfold Addr.add; split <;> simp_all
    rwa [e1] at this
section
variable {w w1 : World} {g : GrP} {m : Mp} {mm mm' : List Int} {k k' : Int} {l l' : List Bool} {vo vo' : Value} {E E' : List Ev}
set_option maxHeartbeats 1000000 in
theorem allj_any (h : GrAt w g m mm k l vo E) (hE : E.length ≤ 1000000) :
    Calls Tryz.prog 60 #[.pointer (some ⟨g.G, 5, none⟩)] w (EvsPost w g m mm k l vo E) := by
  have HG := Lib.hid h
  have hown := h.own
  have hlt := h.own.lt
  have hrow := h.row
  have ha := h.apartG
  clear h
  go_enter_defers Tryz.func60, Tryz.ntmps60
  go_wp2_with (go_at_call 110; refine (lock_free muLib ⟨g.G, 5, none⟩ _ ?_ ?_).mono ?_)
  · exact hown.cell 5 _ rfl
  · exact hown.free 5
  rintro r w' ⟨rfl, rfl⟩
  have q0 : Blk (w.setCell ⟨g.G, 5, none⟩ (.int .i32 1)) g.G 49 (grL g m vo) := hown.set 5 (.int .i32 1)
  have kW : Keep (fun b => b = g.G) w (w.setCell ⟨g.G, 5, none⟩ (.int .i32 1)) := (Keep.refl (fun b => b = g.G) w).set (p := ⟨g.G, 5, none⟩) (fun _ => rfl) _
  have hrw : (w.setCell ⟨g.G, 5, none⟩ (.int .i32 1)).ownsRow 0 81 8 vo E.length (E.flatMap evL) := row_ownkeep hrow kW (fun b hb e => ha.2.2.2.2.2 (e ▸ hb))
  have hsz : (w.setCell ⟨g.G, 5, none⟩ (.int .i32 1)).heap.size = w.heap.size := by simp
  generalize w.setCell ⟨g.G, 5, none⟩ (.int .i32 1) = W1 at *
  have c7 : W1.cell? ⟨g.G, 7, none⟩ = some vo := q0.cell 7 _ rfl
  have HC := Lib.hid (clone_own hrw hE)
  clear hown
  go_wp2_with (go_at_call 112; refine HC.out.mono ?_; rintro r w2 ⟨v2, rfl, h2, b2⟩)
  refine leaves_cons (f := 111) (args := #[.pointer (some ⟨g.G, 5, none⟩)]) (by simp) (by simp [go_sem]) ?_
  have q2 := q0.below b2 q0.lt
  refine (unlock_deferred muLib ⟨g.G, 5, none⟩ .returning _ (q2.cell 5 _ rfl) (q2.free 5)).mono ?_
  rintro r u' w'' ⟨rfl, rfl, rfl⟩
  have kE : Keep (fun b => b = g.G) w (w2.setCell ⟨g.G, 5, none⟩ (.int .i32 0)) := (kW.trans (Keep.ofBelow b2)).set (p := ⟨g.G, 5, none⟩) (fun _ => rfl) _
  refine ⟨_, results_tmp rfl _ _ _, v2, rfl, ?_, HG.out.log' (q2.set 5 (.int .i32 0)) (row_ownkeep hrow kE (fun b hb e => ha.2.2.2.2.2 (e ▸ hb))) (kE.mono fun _ _ h => .inl h), kE⟩
  rw [← hsz]
  exact row_ownkeep h2 (Q := fun b => b = g.G) ((Keep.refl (fun b => b = g.G) w2).set (p := ⟨g.G, 5, none⟩) (fun _ => rfl) _) (fun b hb e => by have := row_base h2 hb; omega)
theorem events_any (h : GrAt w g m mm k l vo E) (hE : E.length ≤ 1000000) :
    Calls Tryz.prog 15 #[grV g] w (EvsPost w g m mm k l vo E) := by
  have HA := Lib.hid (allj_any h hE)
  clear h
  go_enter Tryz.func15, Tryz.ntmps15
  go_wp2_with (go_at_call 60; refine HA.out.mono ?_; rintro r w2 ⟨v, rfl, h2, h3, h4⟩)
  go_ret
  exact ⟨v, rfl, h2, h3, h4⟩
theorem events_nil (w : World) : Calls Tryz.prog 15 #[.pointer none] w fun r w' => r = .returned (.slice none 0 0) ∧ w = w' := by
  go_enter Tryz.func15, Tryz.ntmps15
  go_wp2_with fail
  go_ret
  exact ⟨rfl, rfl⟩
end
end Go.Proofs.YtmknnjjmmfbppaaGreat
