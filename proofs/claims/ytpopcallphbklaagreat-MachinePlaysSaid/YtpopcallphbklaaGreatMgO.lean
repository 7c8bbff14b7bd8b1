/- Package machine: what a pick makes of a machine, permits too. -/
import Derived.Test.YtpopcallphbklaaGreatMacK
import Derived.Test.YtpopcallphbklaaGreatMacM
import Derived.Test.YtpopcallphbklaaGreatMacJ
import Derived.Test.YtpopcallphbklaaGreatMgS
import Derived.Test.YtpopcallphbklaaGreatCellsE
import Derived.Test.YtpopcallphbklaaGreatMgMade
import Derived.Test.YtpopcallphbklaaGreatProg
import Derived.WalkKit
import Derived.ProofKit
import Derived.OpenShut
import Derived.Below
import Derived.Deep.Slices
import Derived.Deep.Fields
import Derived.ChangeSame
namespace Go.Proofs.YtpopcallphbklaaGreat
open Go.ChangeShapes Go.WideShapes Go.ChangeAt Go.RowKit
set_option linter.unusedVariables false
set_option maxRecDepth 100000
set_option linter.unusedSimpArgs false
theorem mpick_allP (C S P R M : Nat) (cs : List Nat) (U : Nat → Prop) (s : St) (t k : Int) (w : World) (h : MachS w C S P R cs M U s) (hn : 0 ≤ s.n ∧ s.n ≤ 2000000) :
    Calls Tryz.prog 8 #[pV M, .agg #[.int .i64 t, .int .i64 k]] w fun e w' => e = .returned (.bool (pickS s t k).2) ∧ (∃ U', MachS w' C S P R cs M U' (pickS s t k).1 ∧ ∀ b, U' b → U b ∨ w.heap.size ≤ b) ∧ Keep (fun b => U b ∨ ofCells C S b ∨ b ∈ cs) w w' ∧
      (PermitsAt w P R cs s.ps → PermitsAt w' P R cs (pickS s t k).1.ps) := by
  obtain ⟨L, hL, hM⟩ := h.mach
  have hperm : ∀ x ∈ s.ts, parkedT x = true → PermitsAt w P R cs s.ps := fun x hx hp => by
    rcases h.perm with hno | hyes
    · exfalso
      obtain ⟨l, vs⟩ := x
      cases l with
      | nil => simp [parkedT] at hp
      | cons y l =>
        obtain ⟨r, v⟩ := y
        cases r with
        | nil => simp [parkedT, parkedS] at hp
        | cons y r =>
          have := hno _ hx _ List.mem_cons_self y (by simp)
          simp [parkedT, parkedS] at hp
          exact this hp
    · exact hyes
  by_cases hc : canT s.ps (thrAt s.ts t) k = true
  · rw [show pickS s t k = (⟨(stepT s.m s.ps (thrAt s.ts t) k).1, (stepT s.m s.ps (thrAt s.ts t) k).2.1, s.ts.set t.toNat (stepT s.m s.ps (thrAt s.ts t) k).2.2, s.n + countT s.m (thrAt s.ts t)⟩, true) from by simp only [pickS, hc, if_true]]
    have hin : 0 ≤ t ∧ t < (s.ts.length : Int) := by
      rcases Int.lt_or_le t 0 with h0 | h0
      · rw [thrAt_no (.inl h0)] at hc; simp [canT] at hc
      · rcases Int.lt_or_le t s.ts.length with h1 | h1
        · exact ⟨h0, h1⟩
        · rw [thrAt_no (.inr h1)] at hc; simp [canT] at hc
    obtain ⟨i, rfl⟩ := Int.eq_ofNat_of_zero_le hin.1
    have hil : i < L.length := by
      have : s.ts.length = L.length := by rw [← hL]; simp
      omega
    obtain ⟨kk, hkk⟩ : ∃ kk, L[i]? = some kk := ⟨_, List.getElem?_eq_getElem hil⟩
    have hts : s.ts[i]? = some kk.x := by rw [← hL, List.getElem?_map, hkk]; rfl
    have ex : thrAt s.ts (i : Int) = kk.x := thrAt_yes hts
    rw [ex] at hc ⊢
    rw [Int.toNat_natCast]
    have hxm : kk.x ∈ s.ts := List.mem_of_getElem? hts
    obtain ⟨X, O, ⟨todo, vs⟩⟩ := kk
    cases todo with
    | nil => simp [canT] at hc
    | cons tk l =>
      obtain ⟨r, v⟩ := tk
      cases r with
      | nil => simp [canT, canS] at hc
      | cons y r =>
        have hok := h.ok _ hxm
        dsimp only [canT, stepT, countT] at hc ⊢
        -- what a step leaves of the whole
        have fin : ∀ (r' : List Itm) (v' : Int) (m' : List Int) (ps' : List Bool) (n' : Int) (w' : World), (stepS s.m s.ps (y :: r) v k) = (m', ps', (r', v')) → n' = s.n + stepCount s.m (y :: r) →
            (∃ U' O', MachAt w' C P M U' (L.set i ⟨X, O', goS ((r', v') :: l) vs⟩) ∧ ∀ b, U' b → U b ∨ w.heap.size ≤ b) → CellsAt w' C S m' n' → (NoPark s.ts ∨ PermitsAt w' P R cs ps') → w.heap.size ≤ w'.heap.size →
            (∃ U', MachS w' C S P R cs M U' ⟨(stepS s.m s.ps (y :: r) v k).1, (stepS s.m s.ps (y :: r) v k).2.1, s.ts.set i (goS ((stepS s.m s.ps (y :: r) v k).2.2 :: l) vs), s.n + stepCount s.m (y :: r)⟩ ∧ ∀ b, U' b → U b ∨ w.heap.size ≤ b) := by
          rintro r' v' m' ps' n' w' he rfl ⟨U', O', g1, g2⟩ g3 g4 hs
          have hlen : ps'.length = s.ps.length := by have := (stepS_len s.m s.ps (y :: r) v k).2; rw [he] at this; exact this
          have hrest := stepS_rest s.m s.ps y r v k
          rw [he] at hrest ⊢
          have hCl := h.cells.own.lt
          have hSl := h.cells.row.lt
          have hmem : ∀ x ∈ s.ts.set i (goS ((r', v') :: l) vs), ∀ q ∈ x.1, (∃ x0 ∈ s.ts, ∃ q0 ∈ x0.1, ∀ z ∈ q.1, z ∈ q0.1) := fun x hx q hq => by
            rcases mem_set_or hx with hx | rfl
            · exact ⟨x, hx, q, hq, fun z hz => hz⟩
            · rcases List.mem_cons.1 (goS_mem _ _ q hq) with rfl | hq
              · exact ⟨_, hxm, (y :: r, v), List.mem_cons_self, hrest⟩
              · exact ⟨_, hxm, q, List.mem_cons_of_mem _ hq, fun z hz => hz⟩
          refine ⟨fun b => (U b ∨ w.heap.size ≤ b) ∧ U' b, ⟨⟨L.set i ⟨X, O', goS ((r', v') :: l) vs⟩, ?_, ?_⟩, g3, ?_, ?_, ?_, by have := h.old.1; omega, by have := h.old.2.1; omega, fun c hc => Nat.lt_of_lt_of_le (h.old.2.2 c hc) hs⟩, fun b hb => hb.1⟩
          · rw [← hL, thrs, List.map_set]
          · have e : (fun b => (U b ∨ w.heap.size ≤ b) ∧ U' b) = U' := funext fun b => propext ⟨fun h => h.2, fun h => ⟨g2 b h, h⟩⟩
            rw [e]; exact g1
          · rcases g4 with g4 | g4
            · refine .inl fun x hx q hq z hz => ?_
              obtain ⟨x0, h0, q0, h1, h2⟩ := hmem x hx q hq
              exact g4 x0 h0 q0 h1 z (h2 z hz)
            · exact .inr g4
          · intro x hx q hq z hz hk5
            obtain ⟨x0, h0, q0, h1, h2⟩ := hmem x hx q hq
            show z.at' < ps'.length
            rw [hlen]
            exact h.ok x0 h0 q0 h1 z (h2 z hz) hk5
          · rintro b ⟨hb, hU'⟩
            rcases hb with hb | hb
            · exact h.apart b hb
            · exact ⟨by omega, by omega, by have := h.old.1; omega, by have := h.old.2.1; omega, fun hc => by have := h.old.2.2 b hc; omega⟩
        have hPC : ∀ b, ofCells C S b → ∀ ps', PermitsAt w P R cs ps' → b ≠ P ∧ b ≠ R ∧ b ∉ cs := fun b hb ps' hP => by
          rcases hb with rfl | rfl
          · exact ⟨h.cells.own.apart hP.own (by decide), h.cells.own.apart hP.row (by decide), hP.notin h.cells.own⟩
          · exact ⟨h.cells.row.apart hP.own (by decide), h.cells.row.apart hP.row (by decide), hP.notin h.cells.row⟩
        rcases Nat.lt_or_ge y.kind 5 with hy | hy
        · have hnp : ¬ (y.kind = 5 ∨ y.kind = 6) := by omega
          have hk0 : k = 0 := by simpa [canS, hnp] using hc
          subst hk0
          have hC1 := h.cells
          have hKP : ∀ w', Keep (fun b => U b ∨ ofCells C S b) w w' → PermitsAt w P R cs s.ps → PermitsAt w' P R cs s.ps := fun w' kk hP => by
            refine hP.keep kk ?_ ?_ ?_
            · exact fun h' => h'.elim (fun h' => (h.apart P h').2.2.1 rfl) (fun h' => (hPC P h' _ hP).1 rfl)
            · exact fun h' => h'.elim (fun h' => (h.apart R h').2.2.2.1 rfl) (fun h' => (hPC R h' _ hP).2.1 rfl)
            · exact fun c hcs h' => h'.elim (fun h' => (h.apart c h').2.2.2.2 hcs) (fun h' => (hPC c h' _ hP).2.2 hcs)
          refine (mpick_yes C P M i U (ofCells C S) L ⟨X, O, ((y :: r, v) :: l, vs)⟩ (y :: r) (if (operS s.m y).2.2 then onS r (operS s.m y).2.1 else (y :: r, v)).1 v (if (operS s.m y).2.2 then onS r (operS s.m y).2.1 else (y :: r, v)).2 l 0 (fun w' => CellsAt w' C S (operS s.m y).1 (s.n + countS s.m y)) w hM hkk rfl (fun W hW t Q hT hQ => op_yes C P S t Q y r v s.m s.n W hT (hC1.keep (Keep.ofBelow (Q := fun _ => False) hW) (fun h => h) (fun h => h)) hy (fun b hb => ⟨(h.apart b (hQ b hb)).1, (h.apart b (hQ b hb)).2.1⟩) hn) (fun b hb hf => hf.elim (h.apart b hb).1 (h.apart b hb).2.1) (fun b hb => hb.elim (fun e => e ▸ hC1.own.lt) (fun e => e ▸ hC1.row.lt))).mono ?_
          rintro e w' ⟨rfl, hU, ⟨w1, r1, r2⟩, kk⟩
          have hs := kk.size
          refine ⟨rfl, fin _ _ _ s.ps _ w' (by simp only [stepS, hnp, if_false]; split <;> rfl) (by simp [stepCount, hnp]) hU (r1.keep r2 (fun h' => h'.elim (fun h' => (h.apart C h').1 rfl) (fun h' => by have := hC1.own.lt; omega)) (fun h' => h'.elim (fun h' => (h.apart S h').2.1 rfl) (fun h' => by have := hC1.row.lt; omega))) (h.perm.imp id (hKP w' kk)) hs, kk.mono (fun b _ hb => hb.imp id .inl), fun hP => ?_⟩
          have e : (stepS s.m s.ps (y :: r) v 0).2.1 = s.ps := by simp only [stepS, hnp, if_false]; split <;> rfl
          show PermitsAt w' P R cs (stepS s.m s.ps (y :: r) v 0).2.1
          rw [e]
          exact hKP w' kk hP
        · have hyk : y.kind = 5 ∨ y.kind = 6 := by
            have hT := (hM.thr _ (List.mem_of_getElem? hkk)).1
            dsimp only at hT
            obtain ⟨c, _, hcur⟩ := hT.cur
            rcases hcur with ⟨e, _⟩ | ⟨q, l', t', Q, e, _, hTk, _⟩
            · cases e
            · injection e with e _
              subst e
              rcases hTk.kinds with ⟨h1, _⟩ | ⟨h1, _⟩
              · omega
              · exact h1
          have hP := hperm _ hxm (by simp [parkedT, parkedS]; omega)
          have hlt := hok _ List.mem_cons_self y (by simp) hyk
          have hb : s.ps[y.at']? = some (s.ps[y.at']'hlt) := by simp
          have he : endsS (s.ps[y.at']'hlt) (y.kind == 6) k = true := by
            rw [← hc]; simp [canS, hyk, endsS, List.getD_eq_getElem?_getD, hb]
          refine (mpick_yes C P M i U (fun b => b ∈ cs) L ⟨X, O, ((y :: r, v) :: l, vs)⟩ (y :: r) (onS r k).1 v (onS r k).2 l k (fun w' => PermitsAt w' P R cs (if k = 0 then s.ps.set y.at' false else s.ps)) w hM hkk rfl (fun W hW t Q hT hQ => park_yes C P R t cs s.ps Q y r v k _ W hT (hP.keep (Keep.ofBelow (Q := fun _ => False) hW) (fun h => h) (fun h => h) (fun _ _ h => h)) hyk hb he (fun b hb => (h.apart b (hQ b hb)).2.2.2.2)) (fun b hb hf => (h.apart b hb).2.2.2.2 hf) (fun b hb => h.old.2.2 b hb)).mono ?_
          rintro e w' ⟨rfl, hU, ⟨w1, r1, r2⟩, kk⟩
          have hs := kk.size
          have hCl := h.cells.own.lt
          have hSl := h.cells.row.lt
          have hP2 : PermitsAt w' P R cs (if k = 0 then s.ps.set y.at' false else s.ps) := (r1.keep r2 (fun h' => h'.elim (fun h' => (h.apart P h').2.2.1 rfl) (fun h' => by have := h.old.1; omega)) (fun h' => h'.elim (fun h' => (h.apart R h').2.2.2.1 rfl) (fun h' => by have := h.old.2.1; omega)) (fun c hcs h' => h'.elim (fun h' => (h.apart c h').2.2.2.2 hcs) (fun h' => by have := h.old.2.2 c hcs; omega)))
          refine ⟨rfl, fin _ _ s.m _ _ w' (by simp only [stepS, hyk, if_true]) rfl hU ?_ (.inr hP2) hs, kk.mono (fun b _ hb => hb.imp id .inr), fun _ => ?_⟩
          · have e0 : stepCount s.m (y :: r) = 0 := by simp [stepCount, hyk]
            rw [e0, Int.add_zero]
            exact h.cells.keep kk (fun h' => h'.elim (fun h' => (h.apart C h').1 rfl) (fun h' => hP.notin h.cells.own h')) (fun h' => h'.elim (fun h' => (h.apart S h').2.1 rfl) (fun h' => hP.notin h.cells.row h'))
          · show PermitsAt w' P R cs (stepS s.m s.ps (y :: r) v k).2.1
            rw [show (stepS s.m s.ps (y :: r) v k).2.1 = (if k = 0 then s.ps.set y.at' false else s.ps) by simp only [stepS, hyk, if_true]]
            exact hP2
  · rw [show pickS s t k = (s, false) from by simp only [pickS, hc]; rfl]
    have hc' : canT s.ps (thrAt s.ts t) k = false := by simpa using hc
    have hokx : ∀ q ∈ (thrAt s.ts t).1, ParkOk s.ps q.1 := by
      intro q hq
      unfold thrAt at hq
      split at hq
      · rw [List.getD_eq_getElem?_getD] at hq
        cases hx : s.ts[t.toNat]? with
        | none => rw [hx] at hq; simp at hq
        | some x => rw [hx] at hq; exact h.ok x (List.mem_of_getElem? hx) q hq
      · simp at hq
    have hpx : parkedT (thrAt s.ts t) = true → PermitsAt w P R cs s.ps := by
      intro hp
      unfold thrAt at hp
      split at hp
      · rw [List.getD_eq_getElem?_getD] at hp
        cases hx : s.ts[t.toNat]? with
        | none => rw [hx] at hp; simp [parkedT] at hp
        | some x => rw [hx] at hp; exact hperm x (List.mem_of_getElem? hx) hp
      · simp [parkedT] at hp
    refine (mpick_no (pV M) (thrAt s.ts t) C P R cs s.ps t k w hpx hokx hc' (fun W hW => by
      have := thread_any C P M U L t W (hM.still (Keep.ofBelow hW))
      rwa [hL] at this)).mono ?_
    rintro e w' ⟨rfl, hb⟩
    exact ⟨rfl, ⟨U, h.still (Keep.ofBelow hb), fun b hb => .inl hb⟩, Keep.ofBelow hb, fun hP => hP.keep (Keep.ofBelow (Q := fun _ => False) hb) (fun h => h) (fun h => h) (fun _ _ h => h)⟩
end Go.Proofs.YtpopcallphbklaaGreat
/- Package machine: Run; a nil machine's Over, Able. -/
namespace Go.Proofs.YtpopcallphbklaaGreat
open Go.ChangeShapes Go.WideShapes Go.ChangeAt Go.RowKit Go.Shelf
set_option linter.unusedVariables false
set_option maxRecDepth 100000
set_option linter.unusedSimpArgs false
attribute [local go_sem] Oper.semAt_some
theorem idx_picks (len c B o i : Nat) (h : i < len) : ∀ W, (Instr.indexAt 26 (.slice (some ⟨B, o, none⟩) len c) (.int .i64 (i : Int))).run Tryz.prog W = .ok (.pointer (some ⟨B, o + i * 2, none⟩)) W := by
  intro W
  go_simp
set_option maxHeartbeats 2000000 in
theorem count_gen (m : Value) (l : List (Int × Int)) (a : Option Addr) (c : Nat) (w : World) (J : Nat → Nat → World → Prop) (h0 : J 0 0 w) (hJ : ∀ i n W W', J i n W → Below W.heap.size W W' → J i n W')
    (hP : ∀ i n W p, J i n W → l[i]? = some p → ∃ b o, a = some ⟨b, o, none⟩ ∧ W.cell? ⟨b, o + i * 2, none⟩ = some (.int .i64 p.1) ∧ W.cell? ⟨b, o + i * 2 + 1, none⟩ = some (.int .i64 p.2))
    (hS : ∀ i n W p, l[i]? = some p → J i n W → Calls Tryz.prog 8 #[m, .agg #[.int .i64 p.1, .int .i64 p.2]] W fun e w' => ∃ b, e = .returned (.bool b) ∧ J (i + 1) (if b then n + 1 else n) w') (hl : l.length ≤ 100000) :
    Calls Tryz.prog 41 #[.slice a l.length c, .func (.func 8) #[m] #[]] w fun e w' => ∃ n : Nat, e = .returned (.int .i64 n) ∧ n ≤ l.length ∧ J l.length n w' := by
  have HJ := Lib.hid hJ
  have HP := Lib.hid hP
  have HS := Lib.hid hS
  clear hJ hP hS
  go_enter Tryz.func41, Tryz.ntmps41
  go_wp2
  go_loopw [5, 10] (fun vn vi wr => ∃ i n : Nat, i ≤ l.length ∧ n ≤ i ∧ vn = .int .i64 (n : Int) ∧ vi = .int .i64 (i : Int) ∧ J i n wr)
    (fun _ vi _ => l.length - (intOf vi).toNat)
  case atStart => exact ⟨0, 0, by omega, by omega, rfl, rfl, h0⟩
  case round =>
    obtain ⟨i, n, hi, hn, rfl, rfl, hj⟩ := hrel
    by_cases hlt : i < l.length
    · obtain ⟨p, hpi⟩ : ∃ p, l[i]? = some p := ⟨_, List.getElem?_eq_getElem hlt⟩
      obtain ⟨B, o, rfl, c0, c1⟩ := HP.out i n wr p hj hpi
      have hix := idx_picks l.length c B o i hlt
      have hi3 : (i : Int) < (l.length : Int) := by omega
      obtain ⟨p1, p2⟩ := p
      have HC : Hid (∀ W, Below wr.heap.size wr W → Calls Tryz.prog 8 #[m, .agg #[.int .i64 p1, .int .i64 p2]] W fun e w' => ∃ b, e = .returned (.bool b) ∧ J (i + 1) (if b then n + 1 else n) w') := Lib.hid fun W hb => HS.out i n W (p1, p2) hpi (HJ.out i n wr W hj hb)
      simp only at c0 c1
      clear hpi hj h0
      go_upto_region 5 with fail
      generalize hW : (wr.alloc _) = W1
      have b1 : Below wr.heap.size wr W1 := by rw [← hW]; go_grown
      have q1 : Blk W1 wr.heap.size 37 #[.int .i64 p1, .int .i64 p2] := by rw [← hW]; exact Blk.new wr _ _
      clear hW c0 c1
      have d0 := q1.cell 0 _ rfl
      have d1 := q1.cell 1 _ rfl
      have HC1 := Lib.hid (HC.out W1 b1)
      clear q1 HC
      go_upto_region 6 with (go_at_call 8; refine HC1.out.mono ?_; rintro e w3 ⟨b, rfl, hj3⟩)
      case roundEnd =>
        rename_i hbf
        subst hbf
        exact ⟨⟨i + 1, n, by omega, by omega, rfl, by go_num, hj3⟩, by simp [intOf]; omega⟩
      rename_i hbt
      subst hbt
      have hn63 : (n : Int) + 1 ≤ 1000000 := by omega
      go_wp2
      go_roundw
      case rel => exact ⟨i + 1, n + 1, by omega, by omega, by go_num, by go_num, hj3⟩
      case measure => simp [intOf]; omega
    · have hie : i = l.length := by omega
      subst hie
      go_wp2
      go_ret
      exact ⟨n, rfl, hn, hj⟩
theorem run_gen (mp : Option Addr) (l : List (Int × Int)) (a : Option Addr) (c : Nat) (w : World) (J : Nat → Nat → World → Prop) (h0 : J 0 0 w) (hJ : ∀ i n W W', J i n W → Below W.heap.size W W' → J i n W')
    (hP : ∀ i n W p, J i n W → l[i]? = some p → ∃ b o, a = some ⟨b, o, none⟩ ∧ W.cell? ⟨b, o + i * 2, none⟩ = some (.int .i64 p.1) ∧ W.cell? ⟨b, o + i * 2 + 1, none⟩ = some (.int .i64 p.2))
    (hS : ∀ i n W p, l[i]? = some p → J i n W → Calls Tryz.prog 8 #[.pointer mp, .agg #[.int .i64 p.1, .int .i64 p.2]] W fun e w' => ∃ b, e = .returned (.bool b) ∧ J (i + 1) (if b then n + 1 else n) w') (hl : l.length ≤ 100000) :
    Calls Tryz.prog 11 #[.pointer mp, .slice a l.length c] w fun e w' => ∃ n : Nat, e = .returned (.int .i64 n) ∧ n ≤ l.length ∧ J l.length n w' := by
  have hmf : ∀ (fn : Fn) (first cap : Array Value) (w : World), (Instr.makeFunc fn first cap).run Tryz.prog w = .ok (.func fn first cap) w := fun _ _ _ _ => rfl
  have HC := Lib.hid (count_gen (.pointer mp) l a c w J h0 hJ hP hS hl)
  clear hJ hP hS h0
  go_enter Tryz.func11, Tryz.ntmps11
  go_wp2_with (go_at_call 41; refine HC.out.mono ?_; rintro e w2 ⟨n, rfl, hn, hj⟩)
  go_ret
  exact ⟨n, rfl, hn, hj⟩
end Go.Proofs.YtpopcallphbklaaGreat
/- The program's machine, of both: what its methods do. -/
namespace Go.Proofs.YtpopcallphbklaaGreat
open Go.ChangeShapes Go.WideShapes Go.ChangeAt Go.RowKit
set_option linter.unusedVariables false
set_option maxRecDepth 100000
set_option linter.unusedSimpArgs false
theorem pl_pick {w : World} {c : PIds} {A : Nat → Prop} {s q : St} (t k : Int) (h : Play w c A s q) (hn : 0 ≤ s.n ∧ s.n ≤ 2000000) :
    Calls Tryz.prog 8 #[pV c.M, .agg #[.int .i64 t, .int .i64 k]] w fun e w' => e = .returned (.bool (pickS s t k).2) ∧ (∃ A', Play w' c A' (pickS s t k).1 q ∧ ∀ b, A' b → A b ∨ w.heap.size ≤ b) ∧ Keep A w w' := by
  obtain ⟨U, V, L, h1, h2, h3, h4, h5⟩ := h.it
  refine (mpick_allP c.C c.S c.P c.R c.M c.cs U s t k w h1 hn).mono ?_
  rintro e w' ⟨rfl, ⟨U', g1, g2⟩, kk, hP⟩
  have hs := kk.size
  have hlt := h.lt
  have hU'l := g1.lt
  have fF : ∀ b, (U b ∨ ofCells c.C c.S b ∨ b ∈ c.cs) → U b ∨ c.fx b := fun b e => e.imp id (fun e => e.elim (fun e => e.elim .inl (fun e => .inr (.inl e))) (fun e => .inr (.inr (.inr (.inr e)))))
  have nA : ∀ b, (U b ∨ ofCells c.C c.S b ∨ b ∈ c.cs) → A b := fun b e => (fF b e).elim (fun e => (h4 b e).1) (fun e => (h.fd b e).1)
  have nd : ∀ b, c.dx b → ¬ (U b ∨ ofCells c.C c.S b ∨ b ∈ c.cs) := fun b hb e => (fF b e).elim (fun e => (h4 b e).2.2 hb) (fun e => (h.fd b e).2 hb)
  have nV : ∀ b, V b → ¬ (U b ∨ ofCells c.C c.S b ∨ b ∈ c.cs) := fun b hb e => (fF b e).elim (fun e => (h4 b e).2.1 hb) (fun e => (h5 b hb).2.1 e)
  refine ⟨rfl, ⟨fun b => (A b ∨ w.heap.size ≤ b) ∧ b < w'.heap.size, ⟨⟨U', V, L, g1, h2.keep kk nV, h3, fun b hb => ⟨⟨(g2 b hb).imp (fun e => (h4 b e).1) id, hU'l b hb⟩, fun hv => ?_, fun hd => ?_⟩, fun b hb => ⟨⟨.inl (h5 b hb).1, by have := hlt b (h5 b hb).1; omega⟩, (h5 b hb).2⟩⟩,
    hP h.perm, h.world.keep kk (nd _ (.inl rfl)) (nd _ (.inr (.inl rfl))) (nd _ (.inr (.inr rfl))), h.ok, fun b hb => ⟨⟨.inl (h.fd b hb).1, by have := hlt b (h.fd b hb).1; omega⟩, (h.fd b hb).2⟩, fun b hb => ⟨.inl (h.dd b hb), by have := hlt b (h.dd b hb); omega⟩, fun b hb => hb.2⟩, fun b hb => hb.1⟩, kk.mono (fun b _ e => nA b e)⟩
  · rcases g2 b hb with e | e
    · exact (h4 b e).2.1 hv
    · have := hlt b (h5 b hv).1; omega
  · rcases g2 b hb with e | e
    · exact (h4 b e).2.2 hd
    · have := hlt b (h.dd b hd); omega
section
variable {w : World} {c : PIds} {A : Nat → Prop} {s q : St}
theorem Play.thread (h : Play w c A s q) (t : Int) : Calls Tryz.prog 36 #[pV c.M, .int .i64 t] w fun e w' => ∃ X O, e = .returned (pV X) ∧ ThrAt w' c.C c.P X O (thrAt s.ts t).1 (thrAt s.ts t).2 ∧ Below w.heap.size w w' := by
  obtain ⟨U, V, L, h1, _⟩ := h.it
  obtain ⟨L, e1, hL⟩ := h1.mach
  have := thread_any c.C c.P c.M U L t w hL
  rwa [e1] at this
theorem Play.thrOk (h : Play w c A s q) (t : Int) : ThrOk (thrAt s.ts t) := by
  obtain ⟨U, V, L, h1, _⟩ := h.it
  obtain ⟨L, e1, hL⟩ := h1.mach
  have := thrOk_at hL t
  rwa [e1] at this
theorem parkOk_at {ps : List Bool} {ts : List Thr} (h : AllOk ps ts) (t : Int) : ∀ y ∈ (thrAt ts t).1, ParkOk ps y.1 := by
  intro q hq
  unfold thrAt at hq
  split at hq
  · rw [List.getD_eq_getElem?_getD] at hq
    cases hx : ts[t.toNat]? with
    | none => rw [hx] at hq; simp at hq
    | some x => rw [hx] at hq; exact h x (List.mem_of_getElem? hx) q hq
  · simp at hq
theorem Play.okS (h : Play w c A s q) : AllOk s.ps s.ts := by
  obtain ⟨U, V, L, h1, _⟩ := h.it
  exact h1.ok
theorem pl_can (h : Play w c A s q) (t k : Int) : Calls Tryz.prog 10 #[pV c.M, .agg #[.int .i64 t, .int .i64 k]] w fun e w' => e = .returned (.bool (canT s.ps (thrAt s.ts t) k)) ∧ Below w.heap.size w w' :=
  mcan_gen (pV c.M) (thrAt s.ts t) c.C c.P c.R c.cs s.ps t k w (fun _ => h.perm) (parkOk_at h.okS t) (fun W hW => (h.below hW).thread t)
theorem pl_values (h : Play w c A s q) (t : Int) (hl : (thrAt s.ts t).2.length ≤ 1000) : Calls Tryz.prog 17 #[pV c.M, .int .i64 t] w fun e w' => ∃ v, e = .returned v ∧ RowI w' v (thrAt s.ts t).2 ∧ Below w.heap.size w w' :=
  mvalues_gen (pV c.M) (thrAt s.ts t) c.C c.P t w hl (h.thread t)
theorem pl_done (h : Play w c A s q) (t : Int) : Calls Tryz.prog 32 #[pV c.M, .int .i64 t] w fun e w' => e = .returned (.bool (thrAt s.ts t).1.isEmpty) ∧ Below w.heap.size w w' :=
  mdone_gen (pV c.M) (thrAt s.ts t) c.C c.P t w (h.thrOk t) (h.thread t)
theorem pl_parked (h : Play w c A s q) (t : Int) : Calls Tryz.prog 33 #[pV c.M, .int .i64 t] w fun e w' => e = .returned (.bool (parkedT (thrAt s.ts t))) ∧ Below w.heap.size w w' :=
  mparked_gen (pV c.M) (thrAt s.ts t) c.C c.P t w (h.thread t)
theorem pl_over (h : Play w c A s q) : Calls Tryz.prog 13 #[pV c.M] w fun e w' => e = .returned (.bool (overS s)) ∧ Below w.heap.size w w' := by
  obtain ⟨U, V, L, h1, _⟩ := h.it
  obtain ⟨L, e1, hL⟩ := h1.mach
  have := over_any c.C c.P c.M U L w hL
  unfold overL at this
  rw [e1] at this
  exact this
theorem pl_able (h : Play w c A s q) : Calls Tryz.prog 15 #[pV c.M] w fun e w' => ∃ u, e = .returned u ∧ RowI w' u ((ableS s).map fun x : Nat => (x : Int)) ∧ Below w.heap.size w w' := by
  have hP := h.perm
  obtain ⟨U, V, L, h1, _⟩ := h.it
  obtain ⟨L, e1, hL⟩ := h1.mach
  have hl : L.length = s.ts.length := by rw [← e1]; simp
  have := able_any c.C c.P c.R c.M c.cs s.ps U L w hL (fun _ => hP) (fun k hk t ht => h1.ok k.x (by rw [← e1]; exact List.mem_map_of_mem hk) t ht)
  have e2 : ableL s.ps L = ableS s := by unfold ableL ableS; rw [e1, hl]
  rw [e2] at this
  exact this
theorem pl_threads (h : Play w c A s q) : Calls Tryz.prog 12 #[pV c.M] w fun e w' => e = .returned (.int .i64 s.ts.length) ∧ w = w' := by
  obtain ⟨U, V, L, h1, _⟩ := h.it
  obtain ⟨L, e1, hL⟩ := h1.mach
  have := mthreads_any c.C c.P c.M U L w hL
  rwa [show L.length = s.ts.length by rw [← e1]; simp] at this
theorem pl_has (h : Play w c A s q) (t : Nat) (b : Bool) (hb : s.ps[t]? = some b) : Calls Tryz.prog 18 #[permitsV c.P, .int .i64 t] w fun e w' => e = .returned (.bool b) ∧ w = w' := has_any c.P c.R c.cs s.ps t b w h.perm hb
theorem Play.cells (h : Play w c A s q) : CellsAt w c.C c.S s.m s.n := by
  obtain ⟨U, V, L, h1, _⟩ := h.it
  exact h1.cells
theorem pl_all (h : Play w c A s q) : Calls Tryz.prog 16 #[cellsV c.C] w (AllIs w s.m) := all_any c.C c.S s.m s.n w h.cells
end
/-- picks, one behind the other: what they leave, and how many were steps -/
def runPicks : St → List (Int × Int) → St × Nat
  | s, [] => (s, 0)
  | s, p :: l => ((runPicks (pickS s p.1 p.2).1 l).1, (pickS s p.1 p.2).2.toNat + (runPicks (pickS s p.1 p.2).1 l).2)
theorem runPicks_snoc : ∀ (l : List (Int × Int)) (s : St) (p : Int × Int), runPicks s (l ++ [p]) = ((pickS (runPicks s l).1 p.1 p.2).1, (runPicks s l).2 + (pickS (runPicks s l).1 p.1 p.2).2.toNat)
  | [], s, p => by simp [runPicks]
  | x :: l, s, p => by
    rw [List.cons_append, runPicks, runPicks_snoc l]
    simp [runPicks, Nat.add_assoc]
theorem stepCount_le (m : List Int) (r : List Itm) : 0 ≤ stepCount m r ∧ stepCount m r ≤ 1 := by
  cases r with
  | nil => simp [stepCount]
  | cons x r =>
    simp only [stepCount, countS]
    split
    · omega
    · split <;> omega
theorem countT_le (m : List Int) (x : Thr) : 0 ≤ countT m x ∧ countT m x ≤ 1 := by
  unfold countT
  split
  · omega
  · exact stepCount_le m _
theorem pickS_n (s : St) (t k : Int) : s.n ≤ (pickS s t k).1.n ∧ (pickS s t k).1.n ≤ s.n + 1 := by
  unfold pickS
  split
  · have := countT_le s.m (thrAt s.ts t)
    dsimp only
    omega
  · dsimp only; omega
theorem runPicks_n : ∀ (l : List (Int × Int)) (s : St), s.n ≤ (runPicks s l).1.n ∧ (runPicks s l).1.n ≤ s.n + l.length
  | [], s => by simp [runPicks]
  | p :: l, s => by
    have h1 := pickS_n s p.1 p.2
    have h2 := runPicks_n l (pickS s p.1 p.2).1
    simp only [runPicks, List.length_cons]
    omega
end Go.Proofs.YtpopcallphbklaaGreat
/- Layer 8's laws: picks that came in, cut; two machines of one draft. -/
namespace Go.Proofs.YtpopcallphbklaaGreat
open Go.ChangeShapes Go.WideShapes Go.ChangeAt Go.RowKit
set_option linter.unusedVariables false
set_option maxRecDepth 100000
set_option linter.unusedSimpArgs false
/-- picks that came in -/
def PicksIn (w : World) (n0 : Nat) (a : Option Addr) (L : List (Int × Int)) : Prop :=
  ∀ (i : Nat) p, L[i]? = some p → (-9223372036854775808 ≤ p.1 ∧ p.1 ≤ 9223372036854775807) ∧ (-9223372036854775808 ≤ p.2 ∧ p.2 ≤ 9223372036854775807) ∧ ∃ b o, a = some ⟨b, o, none⟩ ∧ b < n0 ∧ w.cell? ⟨b, o + i * 2, none⟩ = some (.int .i64 p.1) ∧ w.cell? ⟨b, o + i * 2 + 1, none⟩ = some (.int .i64 p.2)
theorem PicksIn.below {w w1 : World} {n0 : Nat} {a : Option Addr} {L : List (Int × Int)} (h : PicksIn w n0 a L) (hb : Below n0 w w1) : PicksIn w1 n0 a L := fun i p hp => by
  obtain ⟨h1, h2, b, o, e, hl, h3, h4⟩ := h i p hp
  exact ⟨h1, h2, b, o, e, hl, (hb.cell (p := ⟨b, _, none⟩) hl).trans h3, (hb.cell (p := ⟨b, _, none⟩) hl).trans h4⟩
def modOf (m : Nat) (K : Int) : Nat := (wrap64 ((IntKind.u64.wrap K).tmod m)).toNat
theorem modOf_is (K : Int) (m : Nat) (h0 : 0 < m) (hm : m ≤ 1000) : wrap64 ((IntKind.u64.wrap K).tmod m) = (modOf m K : Int) ∧ modOf m K < m := by
  obtain ⟨k, h, hk⟩ := rem_small K m h0 hm
  unfold modOf
  rw [h]
  simpa using hk
theorem modOf_i64 (K : Int) (m : Nat) (h0 : 0 < m) (hm : m ≤ 1000) : IntKind.i64.wrap ((IntKind.u64.wrap K).tmod m) = (modOf m K : Int) := by
  have h1 : 0 ≤ IntKind.u64.wrap K := by rw [IntKind.wrap_u64]; omega
  have h2 : 0 ≤ (IntKind.u64.wrap K).tmod m := Int.tmod_nonneg _ h1
  have h3 : (IntKind.u64.wrap K).tmod m < m := Int.tmod_lt_of_pos _ (by omega)
  rw [← (modOf_is K m h0 hm).1]
  generalize (IntKind.u64.wrap K).tmod m = z at *
  rw [IntWalk.wrap64_in z ⟨by omega, by omega⟩, IntKind.wrap_i64]
  omega
/-- a pick, cut to seven threads -/
def cutP (p : Int × Int) : Int × Int := ((modOf 7 p.1 : Int), (modOf 3 p.2 : Int))
def pickCells (L : List (Int × Int)) : List Value := L.flatMap fun p => [.int .i64 p.1, .int .i64 p.2]
theorem pickCells_len (L : List (Int × Int)) : (pickCells L).length = L.length * 2 := by
  induction L with
  | nil => rfl
  | cons x l ih => simp only [pickCells, List.flatMap_cons, List.length_append, List.length_cons, List.length_nil] at ih ⊢; omega
theorem pickCells_at : ∀ (l : List (Int × Int)) (i : Nat) (x : Int × Int), l[i]? = some x → (pickCells l)[i * 2]? = some (.int .i64 x.1) ∧ (pickCells l)[i * 2 + 1]? = some (.int .i64 x.2)
  | [], i, x, h => by simp at h
  | y :: l, 0, x, h => by
    obtain rfl : y = x := by simpa using h
    simp [pickCells]
  | y :: l, i + 1, x, h => by
    have := pickCells_at l i x (by simpa using h)
    have e : pickCells (y :: l) = [.int .i64 y.1, .int .i64 y.2] ++ pickCells l := rfl
    rw [e]
    refine ⟨?_, ?_⟩
    · rw [List.getElem?_append_right (by simp; omega)]; rw [← this.1]; congr 1; simp; omega
    · rw [List.getElem?_append_right (by simp; omega)]; rw [← this.2]; congr 1; simp; omega
theorem pickCells_snoc (l : List (Int × Int)) (x : Int × Int) : pickCells (l ++ [x]) = pickCells l ++ [.int .i64 x.1, .int .i64 x.2] := by
  simp [pickCells]
theorem pick_info : (Tryz.prog.info? 37).map (fun i => (i.zero, i.size, i.bytes)) = some (some (.agg #[.int .i64 0, .int .i64 0]), 2, 16) := by kernel_rfl
theorem row_pick {w : World} {B : Nat} {v : Value} {L : List (Int × Int)} (h : w.ownsRow B 37 2 v L.length (pickCells L)) : ∃ a c, v = .slice a L.length c ∧ ∀ (i : Nat) p, L[i]? = some p → ∃ g, a = some ⟨g, 0, none⟩ ∧ v.ownBlock = some g ∧ w.cell? ⟨g, i * 2, none⟩ = some (.int .i64 p.1) ∧ w.cell? ⟨g, i * 2 + 1, none⟩ = some (.int .i64 p.2) := by
  rcases h.2 with ⟨hv, h0'⟩ | ⟨g, cap, cur, hv, hg, hh, hnc, _, hs, ht⟩
  · have : L = [] := List.length_eq_zero_iff.1 h0'
    subst this
    exact ⟨none, 0, hv, fun i p hp => by simp at hp⟩
  · refine ⟨_, cap, hv, fun i p hp => ⟨g, rfl, by rw [hv]; rfl, ?_⟩⟩
    obtain ⟨c0, c1⟩ := pickCells_at L i p hp
    have key : ∀ j u, (pickCells L)[j]? = some u → w.cell? ⟨g, j, none⟩ = some u := fun j u hj => by
      unfold World.cell?
      rw [hh]
      rw [← ht] at hj
      have hj2 := (List.getElem?_eq_some_iff.1 hj).1
      rw [List.getElem?_take_of_lt (by simp at hj2; omega)] at hj
      simpa using hj
    exact ⟨key _ _ c0, key _ _ c1⟩
theorem cells2_new (w : World) (e : TypeId) (c0 c1 : Value) : ∀ (j : Nat) (u : Value), [c0, c1][j]? = some u → (w.alloc (.cells #[c0, c1] e)).cell? ((⟨w.heap.size, 0, none⟩ : Addr).add j) = some u := by
  intro j u hj
  have hb := Blk.new w e #[c0, c1]
  have := hb.cell j u (by simpa using hj)
  unfold Addr.add
  split
  · subst_vars; exact this
  · simpa using this
/-- two of them, and blocks of the law's own -/
structure Ag (n0 : Nat) (w : World) (c d : PIds) (A B X : Nat → Prop) (s s' q q' : St) : Prop where
  p1 : Play w c A s q
  p2 : Play w d B s' q'
  ap : ∀ b, A b → ¬ B b
  lo : ∀ b, A b ∨ B b → n0 ≤ b
  x : ∀ b, X b → ¬ A b ∧ ¬ B b ∧ b < w.heap.size
  le : n0 ≤ w.heap.size
def AgE (n0 : Nat) (w : World) (c d : PIds) (X : Nat → Prop) (s s' : St) : Prop := ∃ A B q q', Ag n0 w c d A B X s s' q q'
theorem AgE.still {n0 : Nat} {w w1 : World} {c d : PIds} {X : Nat → Prop} {s s' : St} (h : AgE n0 w c d X s s') (hk : Keep (fun _ => False) w w1) : AgE n0 w1 c d X s s' := by
  obtain ⟨A, B, q, q', h⟩ := h
  exact ⟨A, B, q, q', h.p1.still hk, h.p2.still hk, h.ap, h.lo, fun b hb => ⟨(h.x b hb).1, (h.x b hb).2.1, Nat.lt_of_lt_of_le (h.x b hb).2.2 hk.size⟩, Nat.le_trans h.le hk.size⟩
theorem AgE.below {n0 : Nat} {w w1 : World} {c d : PIds} {X : Nat → Prop} {s s' : St} (h : AgE n0 w c d X s s') (hb : Below w.heap.size w w1) : AgE n0 w1 c d X s s' := h.still (Keep.ofBelow hb)
theorem ag_pick1 {n0 : Nat} {w : World} {c d : PIds} {X : Nat → Prop} {s s' : St} (t k : Int) (h : AgE n0 w c d X s s') (hn : 0 ≤ s.n ∧ s.n ≤ 2000000) :
    Calls Tryz.prog 8 #[pV c.M, .agg #[.int .i64 t, .int .i64 k]] w fun e w' => e = .returned (.bool (pickS s t k).2) ∧ AgE n0 w' c d X (pickS s t k).1 s' ∧ Keep (fun b => n0 ≤ b ∧ ¬ X b) w w' := by
  obtain ⟨A, B, q, q', h⟩ := h
  refine (pl_pick t k h.p1 hn).mono ?_
  rintro e w' ⟨rfl, ⟨A', g1, g2⟩, kk⟩
  have hB := h.p2.lt
  have hle := h.le
  have hs := kk.size
  refine ⟨rfl, ⟨A', B, q, q', g1, h.p2.keep kk (fun b hb ha => h.ap b ha hb), fun b hb hbb => ?_, fun b hb => ?_, fun b hb => ⟨fun ha => ?_, (h.x b hb).2.1, Nat.lt_of_lt_of_le (h.x b hb).2.2 hs⟩, by omega⟩, kk.mono (fun b _ ha => ⟨h.lo b (.inl ha), fun hx => (h.x b hx).1 ha⟩)⟩
  · rcases g2 b hb with e | e
    · exact h.ap b e hbb
    · have := hB b hbb; omega
  · rcases hb with hb | hb
    · rcases g2 b hb with e | e
      · exact h.lo b (.inl e)
      · omega
    · exact h.lo b (.inr hb)
  · rcases g2 b ha with e | e
    · exact (h.x b hb).1 e
    · have := (h.x b hb).2.2; omega
theorem AgE.swap {n0 : Nat} {w : World} {c d : PIds} {X : Nat → Prop} {s s' : St} (h : AgE n0 w c d X s s') : AgE n0 w d c X s' s := by
  obtain ⟨A, B, q, q', h⟩ := h
  exact ⟨B, A, q', q, h.p2, h.p1, fun b hb ha => h.ap b ha hb, fun b hb => h.lo b hb.symm, fun b hb => ⟨(h.x b hb).2.1, (h.x b hb).1, (h.x b hb).2.2⟩, h.le⟩
theorem ag_run2 {n0 : Nat} {w : World} {c d : PIds} {X : Nat → Prop} {s s' : St} {L : List (Int × Int)} {v : Value} (h : AgE n0 w c d X s s') (hn : 0 ≤ s'.n ∧ s'.n ≤ 1000) (hl : L.length ≤ 1000) (hr : w.ownsRow n0 37 2 v L.length (pickCells L)) (hX : ∀ g, v.ownBlock = some g → X g) :
    Calls Tryz.prog 11 #[pV d.M, v] w fun e w' => e = .returned (.int .i64 (runPicks s' L).2) ∧ AgE n0 w' c d X s (runPicks s' L).1 ∧ Keep (fun b => n0 ≤ b ∧ ¬ X b) w w' := by
  obtain ⟨a, cap, rfl, hc⟩ := row_pick hr
  refine (run_gen (some ⟨d.M, 0, none⟩) L a cap w (fun i n W => n = (runPicks s' (L.take i)).2 ∧ AgE n0 W c d X s (runPicks s' (L.take i)).1 ∧ Keep (fun b => n0 ≤ b ∧ ¬ X b) w W) ⟨rfl, h, Keep.refl _ _⟩ (fun i n W W' hj hb => ⟨hj.1, hj.2.1.below hb, hj.2.2.trans (Keep.ofBelow hb)⟩) (fun i n W p hj hp => ?_) (fun i n W p hp hj => ?_) (by omega)).mono ?_
  · obtain ⟨g, e, eo, c0, c1⟩ := hc i p hp
    refine ⟨g, 0, e, ?_, ?_⟩
    · rw [Nat.zero_add]; exact cell_keep c0 hj.2.2 (fun e => e.2 (hX g eo))
    · rw [Nat.zero_add]; exact cell_keep c1 hj.2.2 (fun e => e.2 (hX g eo))
  · obtain ⟨hn', hA, hK⟩ := hj
    have hi := (List.getElem?_eq_some_iff.1 hp).1
    have hln := runPicks_n (L.take i) s'
    have hlt : (L.take i).length ≤ L.length := by simp; omega
    refine (ag_pick1 p.1 p.2 hA.swap (by omega)).mono ?_
    rintro e w' ⟨rfl, g1, g2⟩
    refine ⟨_, rfl, ?_, ?_, hK.trans g2⟩
    · rw [List.take_add_one, hp, Option.toList_some, runPicks_snoc]
      dsimp only
      cases (pickS (runPicks s' (L.take i)).1 p.1 p.2).2 <;> simp [hn']
    · rw [List.take_add_one, hp, Option.toList_some, runPicks_snoc]
      exact g1.swap
  · rintro e w' ⟨n, rfl, hnl, h1, h2, h3⟩
    rw [List.take_length] at h1 h2
    subst h1
    exact ⟨rfl, h2, h3⟩
theorem AgE.own {n0 : Nat} {w w1 : World} {c d : PIds} {X : Nat → Prop} {s s' : St} (h : AgE n0 w c d (fun _ => False) s s') (hb : Below w.heap.size w w1) (hX : ∀ b, X b → w.heap.size ≤ b ∧ b < w1.heap.size) : AgE n0 w1 c d X s s' := by
  obtain ⟨A, B, q, q', h⟩ := h
  have hs := hb.size
  exact ⟨A, B, q, q', h.p1.below hb, h.p2.below hb, h.ap, h.lo, fun b hx => ⟨fun ha => by have := h.p1.lt b ha; have := hX b hx; omega, fun ha => by have := h.p2.lt b ha; have := hX b hx; omega, (hX b hx).2⟩, Nat.le_trans h.le hs⟩
theorem pickS_can (s : St) (t k : Int) : (pickS s t k).2 = canT s.ps (thrAt s.ts t) k := by
  unfold pickS
  split
  · next h => exact h.symm
  · next h => simpa using h
section
variable {n0 : Nat} {w : World} {c d : PIds} {X : Nat → Prop} {s s' : St}
theorem ag_can (h : AgE n0 w c d X s s') (t k : Int) : Calls Tryz.prog 10 #[pV c.M, .agg #[.int .i64 t, .int .i64 k]] w fun e w' => e = .returned (.bool (pickS s t k).2) ∧ Below w.heap.size w w' := by
  obtain ⟨A, B, q, q', h⟩ := h
  rw [pickS_can]
  exact pl_can h.p1 t k
theorem ag_threads (h : AgE n0 w c d X s s') : Calls Tryz.prog 12 #[pV c.M] w fun e w' => e = .returned (.int .i64 s.ts.length) ∧ w = w' := by
  obtain ⟨A, B, q, q', h⟩ := h
  exact pl_threads h.p1
theorem ag_over (h : AgE n0 w c d X s s') : Calls Tryz.prog 13 #[pV c.M] w fun e w' => e = .returned (.bool (overS s)) ∧ Below w.heap.size w w' := by
  obtain ⟨A, B, q, q', h⟩ := h
  exact pl_over h.p1
theorem ag_able (h : AgE n0 w c d X s s') : Calls Tryz.prog 15 #[pV c.M] w fun e w' => ∃ u, e = .returned u ∧ RowI w' u ((ableS s).map fun x : Nat => (x : Int)) ∧ Below w.heap.size w w' := by
  obtain ⟨A, B, q, q', h⟩ := h
  exact pl_able h.p1
theorem ag_values (h : AgE n0 w c d X s s') (t : Int) (hl : (thrAt s.ts t).2.length ≤ 1000) : Calls Tryz.prog 17 #[pV c.M, .int .i64 t] w fun e w' => ∃ v, e = .returned v ∧ RowI w' v (thrAt s.ts t).2 ∧ Below w.heap.size w w' := by
  obtain ⟨A, B, q, q', h⟩ := h
  exact pl_values h.p1 t hl
theorem ag_has (h : AgE n0 w c d X s s') (t : Nat) (b : Bool) (hb : s.ps[t]? = some b) : Calls Tryz.prog 18 #[permitsV c.P, .int .i64 t] w fun e w' => e = .returned (.bool b) ∧ w = w' := by
  obtain ⟨A, B, q, q', h⟩ := h
  exact pl_has h.p1 t b hb
theorem ag_all (h : AgE n0 w c d X s s') : Calls Tryz.prog 16 #[cellsV c.C] w (AllIs w s.m) := by
  obtain ⟨A, B, q, q', h⟩ := h
  exact pl_all h.p1
theorem AgE.values (h : AgE n0 w c d X s s') (t : Int) : (thrAt s.ts t).2.length ≤ 1000 := by
  obtain ⟨A, B, q, q', h⟩ := h
  obtain ⟨U, V, L, h1, _⟩ := h.p1.it
  obtain ⟨L, e1, hL⟩ := h1.mach
  unfold thrAt
  split
  · rw [List.getD_eq_getElem?_getD]
    cases hx : s.ts[t.toNat]? with
    | none => simp
    | some x =>
      rw [← e1, thrs, List.getElem?_map] at hx
      obtain ⟨k, hk, rfl⟩ := Option.map_eq_some_iff.1 hx
      have := (hL.thr k (List.mem_of_getElem? hk)).2.2.2
      simp
      omega
  · simp
theorem AgE.few (h : AgE n0 w c d X s s') : s.ts.length ≤ 1000 := by
  obtain ⟨A, B, q, q', h⟩ := h
  obtain ⟨U, V, L, h1, _⟩ := h.p1.it
  obtain ⟨L, e1, hL⟩ := h1.mach
  have := hL.few
  rw [← e1]
  simpa using this
end
theorem ableS_len (s : St) : ((ableS s).map fun x : Nat => (x : Int)).length ≤ s.ts.length := by
  unfold ableS sift
  rw [List.length_map]
  exact Nat.le_trans (List.length_filter_le _ _) (by simp)
theorem idx_u64s8 (len c B o i : Nat) (h : i < len) : ∀ W, (Instr.indexAt 50 (.slice (some ⟨B, o, none⟩) len c) (.int .i64 (i : Int))).run Tryz.prog W = .ok (.pointer (some ⟨B, o + i, none⟩)) W := by
  intro W
  go_simp
theorem pickS_sizes (s : St) (t k : Int) : (pickS s t k).1.ts.length = s.ts.length ∧ (pickS s t k).1.ps.length = s.ps.length ∧ (pickS s t k).1.m.length = s.m.length := by
  unfold pickS
  split
  · unfold stepT
    split
    · simp
    · exact ⟨by simp, (stepS_len _ _ _ _ _).2, (stepS_len _ _ _ _ _).1⟩
  · exact ⟨rfl, rfl, rfl⟩
theorem runPicks_sizes : ∀ (l : List (Int × Int)) (s : St), (runPicks s l).1.ts.length = s.ts.length ∧ (runPicks s l).1.ps.length = s.ps.length ∧ (runPicks s l).1.m.length = s.m.length
  | [], s => ⟨rfl, rfl, rfl⟩
  | p :: l, s => by
    have h1 := pickS_sizes s p.1 p.2
    have h2 := runPicks_sizes l (pickS s p.1 p.2).1
    simp only [runPicks]
    exact ⟨h2.1.trans h1.1, h2.2.1.trans h1.2.1, h2.2.2.trans h1.2.2⟩
theorem runPicks_le : ∀ (l : List (Int × Int)) (s : St), (runPicks s l).2 ≤ l.length
  | [], s => by simp [runPicks]
  | p :: l, s => by
    have := runPicks_le l (pickS s p.1 p.2).1
    simp only [runPicks, List.length_cons]
    cases (pickS s p.1 p.2).2 <;> simp <;> omega
end Go.Proofs.YtpopcallphbklaaGreat
/- What layer 8's laws read of their arguments: a draft of threads, picks. -/
namespace Go.Proofs.YtpopcallphbklaaGreat
open Go.ChangeShapes Go.WideShapes Go.ChangeAt Go.RowKit
set_option linter.unusedVariables false
set_option maxRecDepth 100000
theorem p8_item_cells : Tryz.prog.cellsOf 69 = 4 := by kernel_rfl
theorem p8_items_cells : Tryz.prog.cellsOf 64 = 1 := by kernel_rfl
theorem p8_itemss_cells : Tryz.prog.cellsOf 63 = 1 := by kernel_rfl
theorem p8_itemsss_cells : Tryz.prog.cellsOf 23 = 1 := by kernel_rfl
theorem p8_drawn_cells : Tryz.prog.cellsOf 25 = 4 := by kernel_rfl
theorem p8_pick_cells : Tryz.prog.cellsOf 37 = 2 := by kernel_rfl
theorem p8_a3_cells : Tryz.prog.cellsOf 22 = 3 := by kernel_rfl
theorem p8_u8_cells : Tryz.prog.cellsOf 5 = 1 := by kernel_rfl
theorem p8_u64_cells : Tryz.prog.cellsOf 52 = 1 := by kernel_rfl
theorem p8_int_cells : Tryz.prog.cellsOf 3 = 1 := by kernel_rfl
theorem wf8p_u8 {z : Int} (h : (Lit.int .u8 z).wf = true) : 0 ≤ z ∧ z ≤ 255 := by
  simpa [Lit.wf, IntKind.min, IntKind.max, IntKind.signed, IntKind.bits] using h
theorem wf8p_u64 {z : Int} (h : (Lit.int .u64 z).wf = true) : 0 ≤ z ∧ z ≤ 18446744073709551615 := by
  simpa [Lit.wf, IntKind.min, IntKind.max, IntKind.signed, IntKind.bits] using h
theorem wf8p_i64 {z : Int} (h : (Lit.int .i64 z).wf = true) : -9223372036854775808 ≤ z ∧ z ≤ 9223372036854775807 := by
  simpa [Lit.wf, IntKind.min, IntKind.max, IntKind.signed, IntKind.bits] using h
theorem listP_of {α : Type} (P : Nat → α → Prop) : ∀ (n : Nat), (∀ i, i < n → ∃ x, P i x) → ∃ l : List α, l.length = n ∧ ∀ i x, l[i]? = some x → P i x
  | 0, _ => ⟨[], rfl, fun i x h => by simp at h⟩
  | n + 1, h => by
    obtain ⟨l, h1, h2⟩ := listP_of P n (fun i hi => h i (by omega))
    obtain ⟨x, hx⟩ := h n (by omega)
    refine ⟨l ++ [x], by simp [h1], fun i y hy => ?_⟩
    rcases Nat.lt_or_ge i l.length with hl | hl
    · rw [List.getElem?_append_left hl] at hy
      exact h2 i y hy
    · rw [List.getElem?_append_right hl] at hy
      obtain ⟨h3, h4⟩ := List.getElem?_eq_some_iff.1 hy
      simp at h3
      obtain rfl : i = n := by omega
      simp at h4; subst h4
      exact hx
section
variable {H : Type} {enc : TypeId × Value → H} {W : World} {base : Nat} {spare : Nat → Bool} {held : Bool}
theorem row_items8 {fuel : Nat} {v : Value} {x : DataW H × List MemPlace} (hf : DataW.trod enc Tryz.prog W base spare held fuel 64 [v] = some x) :
    ∃ (a : Option Addr) (R : List Raw) (cp : Nat), v = .slice a R.length cp ∧ R.length ≤ 9223372036854775807 ∧ RawsAt W W.heap.size a R := by
  rcases Go.Deep.open_slice Tryz.underlying64 hf with ⟨hcs, _⟩ | ⟨x, l, c, m, n, D, Pl, hcs, _, hl, hm, hmm, _, hi⟩
  · simp at hcs
    subst hcs
    exact ⟨none, [], 0, rfl, by simp, fun i x h => by simp at h⟩
  · simp at hcs
    subst hcs
    have key : ∀ i, i < l → ∃ r : Raw, r.ok ∧ ∃ b off, (some x : Option Addr) = some ⟨b, off, none⟩ ∧ b < W.heap.size ∧
        W.cell? ⟨b, off + i * 4, none⟩ = some (.int .i64 r.k) ∧ W.cell? ⟨b, off + i * 4 + 1, none⟩ = some (.int .i64 r.a) ∧ W.cell? ⟨b, off + i * 4 + 2, none⟩ = some (.int .u64 r.x) ∧ W.cell? ⟨b, off + i * 4 + 3, none⟩ = some (.int .u64 r.y) := by
      intro i hil
      obtain ⟨b, off, sp⟩ := x
      have hsp : sp = none := by
        obtain ⟨cs', hc, _⟩ := hi 0 (by rw [hmm]; split <;> omega)
        rw [p8_item_cells] at hc
        obtain ⟨_, hcl, hat⟩ := World.cells?_some hc
        have e := hat 0 (by omega)
        match cs', hcl with
        | [c0, c1, c2, c3], _ =>
          have e : W.cell? ((Addr.mk b off sp).add (0 * 4) |>.add 0) = some c0 := e
          simpa [Addr.add] using World.cell?_spot e
      subst hsp
      obtain ⟨cs', hc, ht⟩ := hi i (by rw [hmm]; split <;> omega)
      rw [p8_item_cells] at hc
      obtain ⟨_, hcl, hat⟩ := World.cells?_some hc
      obtain ⟨xs, k, _, _, _, hlen, hg⟩ := DataW.trod_struct Tryz.underlying69 ht
      match cs', hcl, xs, hlen with
      | [c0, c1, c2, c3], _, [y0, y1, y2, y3], _ =>
        have g0 : DataW.trod enc Tryz.prog W base spare held k 3 (List.take (Tryz.prog.cellsOf 3) (List.drop 0 [c0, c1, c2, c3])) = some y0 := hg 0 _ rfl
        rw [p8_int_cells] at g0
        have g1 : DataW.trod enc Tryz.prog W base spare held k 3 (List.take (Tryz.prog.cellsOf 3) (List.drop 1 [c0, c1, c2, c3])) = some y1 := hg 1 _ rfl
        rw [p8_int_cells] at g1
        have g2 : DataW.trod enc Tryz.prog W base spare held k 52 (List.take (Tryz.prog.cellsOf 52) (List.drop 2 [c0, c1, c2, c3])) = some y2 := hg 2 _ rfl
        rw [p8_u64_cells] at g2
        have g3 : DataW.trod enc Tryz.prog W base spare held k 52 (List.take (Tryz.prog.cellsOf 52) (List.drop 3 [c0, c1, c2, c3])) = some y3 := hg 3 _ rfl
        rw [p8_u64_cells] at g3
        obtain ⟨z0, e0, _, w0⟩ := DataW.trod_int Tryz.underlying3 g0
        obtain rfl : c0 = .int .i64 z0 := by simpa using e0
        obtain ⟨z1, e1, _, w1⟩ := DataW.trod_int Tryz.underlying3 g1
        obtain rfl : c1 = .int .i64 z1 := by simpa using e1
        obtain ⟨z2, e2, _, w2⟩ := DataW.trod_int Tryz.underlying52 g2
        obtain rfl : c2 = .int .u64 z2 := by simpa using e2
        obtain ⟨z3, e3, _, w3⟩ := DataW.trod_int Tryz.underlying52 g3
        obtain rfl : c3 = .int .u64 z3 := by simpa using e3
        have h0 := hat 0 (by omega)
        have h1 := hat 1 (by omega)
        have h2 := hat 2 (by omega)
        have h3 := hat 3 (by omega)
        rw [Go.WideShapes.add_plain, Go.WideShapes.add_plain] at h0 h1 h2 h3
        exact ⟨⟨z0, z1, z2, z3⟩, ⟨wf8p_i64 w0, wf8p_i64 w1, wf8p_u64 w2, wf8p_u64 w3⟩, b, off, rfl, bcell_lt9 h0, h0, h1, h2, h3⟩
    obtain ⟨R, h1, h2⟩ := listP_of _ l key
    exact ⟨some x, R, c, by rw [h1], by unfold maxLen at hm; omega, h2⟩
theorem row_itemss8 {fuel : Nat} {v : Value} {x : DataW H × List MemPlace} (hf : DataW.trod enc Tryz.prog W base spare held fuel 63 [v] = some x) :
    ∃ (a : Option Addr) (row : List (List Raw)) (cp : Nat), v = .slice a row.length cp ∧
      ∀ (k : Nat) R, row[k]? = some R → R.length ≤ 9223372036854775807 ∧ ∃ b' o', a = some ⟨b', o', none⟩ ∧ b' < W.heap.size ∧ ∃ a'' c'', W.cell? ⟨b', o' + k, none⟩ = some (.slice a'' R.length c'') ∧ RawsAt W W.heap.size a'' R := by
  rcases Go.Deep.open_slice Tryz.underlying63 hf with ⟨hcs, _⟩ | ⟨x, l, c, m, n, D, Pl, hcs, _, hl, hm, hmm, _, hi⟩
  · simp at hcs
    subst hcs
    exact ⟨none, [], 0, rfl, fun i x h => by simp at h⟩
  · simp at hcs
    subst hcs
    have key : ∀ i, i < l → ∃ R : List Raw, R.length ≤ 9223372036854775807 ∧ ∃ b' o', (some x : Option Addr) = some ⟨b', o', none⟩ ∧ b' < W.heap.size ∧ ∃ a'' c'', W.cell? ⟨b', o' + i, none⟩ = some (.slice a'' R.length c'') ∧ RawsAt W W.heap.size a'' R := by
      intro i hil
      obtain ⟨b, off, sp⟩ := x
      have hsp : sp = none := by
        obtain ⟨cs', hc, _⟩ := hi 0 (by rw [hmm]; split <;> omega)
        rw [p8_items_cells] at hc
        obtain ⟨_, hcl, hat⟩ := World.cells?_some hc
        have e := hat 0 (by omega)
        match cs', hcl with
        | [c0], _ =>
          have e : W.cell? ((Addr.mk b off sp).add (0 * 1) |>.add 0) = some c0 := e
          simpa [Addr.add] using World.cell?_spot e
      subst hsp
      obtain ⟨cs', hc, ht⟩ := hi i (by rw [hmm]; split <;> omega)
      rw [p8_items_cells] at hc
      obtain ⟨_, hcl, hat⟩ := World.cells?_some hc
      match cs', hcl with
      | [c0], _ =>
        obtain ⟨a'', R, c'', rfl, hR, hr⟩ := row_items8 ht
        have e := hat 0 (by omega)
        have e2 : W.cell? ⟨b, off + i, none⟩ = some (.slice a'' R.length c'') := by
          rcases Nat.eq_zero_or_pos i with rfl | h0
          · simpa [Addr.add] using e
          · simpa [Addr.add, show i ≠ 0 by omega] using e
        exact ⟨R, hR, b, off, rfl, bcell_lt9 e2, a'', c'', e2, hr⟩
    obtain ⟨row, h1, h2⟩ := listP_of _ l key
    exact ⟨some x, row, c, by rw [h1], h2⟩
theorem row_itemsss8 {fuel : Nat} {v : Value} {x : DataW H × List MemPlace} (hf : DataW.trod enc Tryz.prog W base spare held fuel 23 [v] = some x) :
    ∃ (a : Option Addr) (N : List (List (List Raw))) (cp : Nat), v = .slice a N.length cp ∧ DraftAt W W.heap.size a N := by
  rcases Go.Deep.open_slice Tryz.underlying23 hf with ⟨hcs, _⟩ | ⟨x, l, c, m, n, D, Pl, hcs, _, hl, hm, hmm, _, hi⟩
  · simp at hcs
    subst hcs
    exact ⟨none, [], 0, rfl, fun i x h => by simp at h⟩
  · simp at hcs
    subst hcs
    have key : ∀ i, i < l → ∃ row : List (List Raw), ∃ b o, (some x : Option Addr) = some ⟨b, o, none⟩ ∧ b < W.heap.size ∧ ∃ a' c', W.cell? ⟨b, o + i, none⟩ = some (.slice a' row.length c') ∧
        ∀ (k : Nat) R, row[k]? = some R → R.length ≤ 9223372036854775807 ∧ ∃ b' o', a' = some ⟨b', o', none⟩ ∧ b' < W.heap.size ∧ ∃ a'' c'', W.cell? ⟨b', o' + k, none⟩ = some (.slice a'' R.length c'') ∧ RawsAt W W.heap.size a'' R := by
      intro i hil
      obtain ⟨b, off, sp⟩ := x
      have hsp : sp = none := by
        obtain ⟨cs', hc, _⟩ := hi 0 (by rw [hmm]; split <;> omega)
        rw [p8_itemss_cells] at hc
        obtain ⟨_, hcl, hat⟩ := World.cells?_some hc
        have e := hat 0 (by omega)
        match cs', hcl with
        | [c0], _ =>
          have e : W.cell? ((Addr.mk b off sp).add (0 * 1) |>.add 0) = some c0 := e
          simpa [Addr.add] using World.cell?_spot e
      subst hsp
      obtain ⟨cs', hc, ht⟩ := hi i (by rw [hmm]; split <;> omega)
      rw [p8_itemss_cells] at hc
      obtain ⟨_, hcl, hat⟩ := World.cells?_some hc
      match cs', hcl with
      | [c0], _ =>
        obtain ⟨a', row, c', rfl, hr⟩ := row_itemss8 ht
        have e := hat 0 (by omega)
        have e2 : W.cell? ⟨b, off + i, none⟩ = some (.slice a' row.length c') := by
          rcases Nat.eq_zero_or_pos i with rfl | h0
          · simpa [Addr.add] using e
          · simpa [Addr.add, show i ≠ 0 by omega] using e
        exact ⟨row, b, off, rfl, bcell_lt9 e2, a', c', e2, hr⟩
    obtain ⟨N, h1, h2⟩ := listP_of _ l key
    exact ⟨some x, N, c, by rw [h1], h2⟩
theorem open_u8p {n : Nat} {c : Value} {x : DataW H × List MemPlace} (h : DataW.trod enc Tryz.prog W base spare held n 5 [c] = some x) : ∃ z, c = .int .u8 z ∧ 0 ≤ z ∧ z ≤ 255 := by
  obtain ⟨z, e, _, w⟩ := DataW.trod_int Tryz.underlying5 h
  have := wf8p_u8 w
  exact ⟨z, by simpa using e, this.1, this.2⟩
theorem open_drawn8 {b0 : Nat} {v : Value} {d : DataW H} {p : List MemPlace} (hv : Value.okWide Tryz.prog W .any b0 25 v) (h : DataW.Trod enc Tryz.prog W base spare held 25 v d p) :
    ∃ (f0 f1 f2 : Int) (a : Option Addr) (cap : Nat) (N : List (List (List Raw))), v = .agg #[.int .u8 f0, .int .u8 f1, .int .u8 f2, .slice a N.length cap] ∧ ((0 ≤ f0 ∧ f0 ≤ 255) ∧ (0 ≤ f1 ∧ f1 ≤ 255) ∧ (0 ≤ f2 ∧ f2 ≤ 255)) ∧ DraftAt W W.heap.size a N := by
  obtain ⟨cs, rfl, hsz⟩ := okWide_struct Tryz.underlying25 hv
  obtain ⟨l⟩ := cs
  match l, hsz.trans p8_drawn_cells with
  | [x0, x1, x2, x3], _ =>
    obtain ⟨fuel, hf⟩ := h
    obtain ⟨xs, n, _, _, _, hlen, hg⟩ := DataW.trod_struct Tryz.underlying25 hf
    match xs, hlen with
    | [y0, y1], _ =>
      have g0 : DataW.trod enc Tryz.prog W base spare held n 22 (List.take (Tryz.prog.cellsOf 22) (List.drop 0 [x0, x1, x2, x3])) = some y0 := hg 0 _ rfl
      rw [p8_a3_cells] at g0
      have g1 : DataW.trod enc Tryz.prog W base spare held n 23 (List.take (Tryz.prog.cellsOf 23) (List.drop 3 [x0, x1, x2, x3])) = some y1 := hg 1 _ rfl
      rw [p8_itemsss_cells] at g1
      have g0 : DataW.trod enc Tryz.prog W base spare held n 22 [x0, x1, x2] = some y0 := g0
      have g1 : DataW.trod enc Tryz.prog W base spare held n 23 [x3] = some y1 := g1
      obtain ⟨ys0, m0, _, _, _, hl0, hi0⟩ := DataW.trod_array Tryz.underlying22 g0
      match ys0, hl0 with
      | [u0, u1, u2], _ =>
        have p0 := hi0 0 (by omega)
        have p1 := hi0 1 (by omega)
        have p2 := hi0 2 (by omega)
        rw [p8_u8_cells] at p0 p1 p2
        obtain ⟨f0, rfl, hf0⟩ := open_u8p (c := x0) (x := u0) p0
        obtain ⟨f1, rfl, hf1⟩ := open_u8p (c := x1) (x := u1) p1
        obtain ⟨f2, rfl, hf2⟩ := open_u8p (c := x2) (x := u2) p2
        obtain ⟨a, N, cap, rfl, hN⟩ := row_itemsss8 g1
        exact ⟨f0, f1, f2, a, cap, N, rfl, ⟨hf0, hf1, hf2⟩, hN⟩
theorem open_picksP {a : Option Addr} {len cap : Nat} {d : DataW H} {p : List MemPlace}
    (h : DataW.Trod enc Tryz.prog W base spare held 26 (.slice a len cap) d p) : ∃ L : List (Int × Int), L.length = len ∧ PicksIn W W.heap.size a L := by
  obtain ⟨fuel, hf⟩ := h
  rcases Go.Deep.open_slice Tryz.underlying26 hf with ⟨hcs, _⟩ | ⟨x, l, c, m, n, D, Pl, hcs, _, hl, hm, hmm, _, hi⟩
  · simp [Value.cells] at hcs
    obtain ⟨rfl, rfl, rfl⟩ := hcs
    exact ⟨[], rfl, fun i p h => by simp at h⟩
  · simp [Value.cells] at hcs
    obtain ⟨rfl, rfl, rfl⟩ := hcs
    refine listP_of (fun i (p : Int × Int) => (-9223372036854775808 ≤ p.1 ∧ p.1 ≤ 9223372036854775807) ∧ (-9223372036854775808 ≤ p.2 ∧ p.2 ≤ 9223372036854775807) ∧ ∃ b o, (some x : Option Addr) = some ⟨b, o, none⟩ ∧ b < W.heap.size ∧ W.cell? ⟨b, o + i * 2, none⟩ = some (.int .i64 p.1) ∧ W.cell? ⟨b, o + i * 2 + 1, none⟩ = some (.int .i64 p.2)) _ (fun i hil => ?_)
    obtain ⟨b, off, sp⟩ := x
    have hsp : sp = none := by
      obtain ⟨cs', hc, _⟩ := hi 0 (by rw [hmm]; split <;> omega)
      rw [p8_pick_cells] at hc
      obtain ⟨_, hcl, hat⟩ := World.cells?_some hc
      have e := hat 0 (by omega)
      match cs', hcl with
      | [c0, c1], _ =>
        have e : W.cell? ((Addr.mk b off sp).add (0 * 2) |>.add 0) = some c0 := e
        simpa [Addr.add] using World.cell?_spot e
    subst hsp
    obtain ⟨cs', hc, ht⟩ := hi i (by rw [hmm]; split <;> omega)
    rw [p8_pick_cells] at hc
    obtain ⟨_, hcl, hat⟩ := World.cells?_some hc
    obtain ⟨xs, k, _, _, _, hlen, hg⟩ := DataW.trod_struct Tryz.underlying37 ht
    match cs', hcl, xs, hlen with
    | [c0, c1], _, [y0, y1], _ =>
      have g0 : DataW.trod enc Tryz.prog W base spare held k 3 (List.take (Tryz.prog.cellsOf 3) (List.drop 0 [c0, c1])) = some y0 := hg 0 _ rfl
      rw [p8_int_cells] at g0
      have g1 : DataW.trod enc Tryz.prog W base spare held k 3 (List.take (Tryz.prog.cellsOf 3) (List.drop 1 [c0, c1])) = some y1 := hg 1 _ rfl
      rw [p8_int_cells] at g1
      obtain ⟨z0, e0, _, w0⟩ := DataW.trod_int Tryz.underlying3 g0
      obtain rfl : c0 = .int .i64 z0 := by simpa using e0
      obtain ⟨z1, e1, _, w1⟩ := DataW.trod_int Tryz.underlying3 g1
      obtain rfl : c1 = .int .i64 z1 := by simpa using e1
      have h0 := hat 0 (by omega)
      have h1 := hat 1 (by omega)
      rw [Go.WideShapes.add_plain, Go.WideShapes.add_plain] at h0 h1
      exact ⟨(z0, z1), wf8p_i64 w0, wf8p_i64 w1, b, off, rfl, bcell_lt9 h0, h0, h1⟩
end
end Go.Proofs.YtpopcallphbklaaGreat
