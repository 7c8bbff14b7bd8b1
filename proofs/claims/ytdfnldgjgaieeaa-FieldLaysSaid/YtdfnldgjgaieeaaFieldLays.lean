/- FieldLays returns true: which fields are laid, and where, is as the document says; they are apart, one by one. -/
import Derived.Test.YtdfnldgjgaieeaaFieldRefLay
import Derived.Deep.RegionHeld3
import Derived.Deep.QuietTactic
import Derived.BigQuiet
import Derived.Deep.DeepCutAuto
namespace Go.Proofs.Ytdfnldgjgaieeaa
open Go.ChangeShapes Go.WideShapes Go.ChangeAt Go.RowKit Go.Shelf
set_option linter.unusedVariables false
namespace Lays
theorem toI_may (ks : List Nat) (hv : Valid ks) : (laidW 0 (toI ks)).all mayP = true := by
  have := laidW_row ks 0 (by have := hv.sum; omega)
  rw [show (0 : Int) = ((0 : Nat) : Int) from rfl, this]
  exact rowF_may ks 0 (by have := hv.sum; omega) hv.pos
theorem ap_pair (ks : List Nat) (hv : Valid ks) (i k : Nat) (hi : i < ks.length) (hk : k < ks.length) :
    ∀ W : World, Calls Try.prog 13 #[fld (atF ks i) (ks.getD i 0), fld (atF ks k) (ks.getD k 0)] W fun e w' => e = .returned (.bool (i != k)) ∧ Below W.heap.size W w' := by
  have g : ∀ j, j < ks.length → 1 ≤ ks.getD j 0 ∧ atF ks j + ks.getD j 0 ≤ 64 := by
    intro j hj
    have e : ks.getD j 0 = ks[j] := by simp [List.getD_eq_getElem?_getD, hj]
    have h1 := atF_succ ks j hj
    have h2 := atF_le ks (j + 1) (by omega)
    have h3 := hv.sum
    have h4 := hv.pos _ (List.getElem_mem hj)
    omega
  intro W
  have h := apart_yes (atF ks i) (ks.getD i 0) (atF ks k) (ks.getD k 0) W (g i hi).1 (g i hi).2 (g k hk).1 (g k hk).2
  have e : apB (atF ks i) (ks.getD i 0) (atF ks k) (ks.getD k 0) = (i != k) := by
    have gi := (g i hi).1
    have gk := (g k hk).1
    unfold apB
    rw [Bool.eq_iff_iff, decide_eq_true_eq, bne_iff_ne]
    constructor
    · intro h e
      subst e
      omega
    · intro h
      rcases Nat.lt_or_ge i k with h' | h'
      · left
        have h1 := atF_succ ks i hi
        have h2 := atF_mono ks (i + 1) k (by omega) (by omega)
        omega
      · right
        have h1 := atF_succ ks k hk
        have h2 := atF_mono ks (k + 1) i (by omega) (by omega)
        omega
  rw [e] at h
  exact h
theorem vint {k : IntKind} {a b : Int} (h : a = b) : Value.int k a = Value.int k b := by rw [h]
/-- the numbers of the second slice -/
def small (z : Int) : Int := wrap64 ((IntKind.u64.wrap z).tmod 20)
def smalls (zs : List Int) (k : Nat) : List Int := (List.range k).map fun i => small (zs.getD i 0)
theorem smalls_length (zs : List Int) (k : Nat) : (smalls zs k).length = k := by simp [smalls]
theorem smalls_succ (zs : List Int) (k : Nat) : smalls zs (k + 1) = smalls zs k ++ [small (zs.getD k 0)] := by simp [smalls, List.range_succ]
def firsts (zs : List Int) (k : Nat) : List Int := (List.range k).map fun i => zs.getD i 0
theorem firsts_length (zs : List Int) (k : Nat) : (firsts zs k).length = k := by simp [firsts]
theorem firsts_get (zs : List Int) (k i : Nat) (h : i < k) : (firsts zs k).getD i 0 = zs.getD i 0 := by
  simp [firsts, List.getD_eq_getElem?_getD, h]
theorem intsAt_mono {w : World} {n n' : Nat} {v : Value} {zs : List Int} (h : IntsAt w n v zs) (hn : n ≤ n') : IntsAt w n' v zs := by
  obtain ⟨a, c, e, hc⟩ := h
  refine ⟨a, c, e, fun i hi => ?_⟩
  obtain ⟨b, off, e1, e2, e3⟩ := hc i hi
  exact ⟨b, off, e1, by omega, e3⟩
theorem valid_of (l : List Int) : ∀ ks : List Nat, Valid ks → (laidW 0 (toI ks ++ l)).all mayP = true → ∃ js, toI ks ++ l = toI js ∧ Valid js := by
  induction l with
  | nil => intro ks hv _; exact ⟨ks, by simp, hv⟩
  | cons z l ih =>
    intro ks hv h
    by_cases hz : z < 1 ∨ 64 - (ks.sum : Int) < z
    · have := bad_prefix (toI ks ++ z :: l) ks z ks.length (by rw [List.take_append]; simp [toI, List.take_of_length_le]) hv hz
      rw [h] at this
      cases this
    · obtain ⟨n, rfl⟩ := Int.eq_ofNat_of_zero_le (show 0 ≤ z by omega)
      have e : toI ks ++ (n : Int) :: l = toI (ks ++ [n]) ++ l := by rw [toI_snoc]; simp
      rw [e] at h ⊢
      exact ih (ks ++ [n]) ⟨by intro k hk; rcases List.mem_append.1 hk with h | h; exact hv.pos k h; simp at h; omega, by simp; omega⟩ h
theorem toI_get (ks : List Nat) (i : Nat) (h : i < ks.length) : (toI ks).getD i 0 = ((ks.getD i 0 : Nat) : Int) := by
  simp [toI, List.getD_eq_getElem?_getD, h]
theorem below_drewN'' {B : Nat} {a w : World} (h : Below B a w) (n : Nat) : Below B a (w.drewN n) := ⟨h.os, h.tape, h.output, h.size, h.block⟩
theorem refLay_no (v : Value) (zs : List Int) (hlen : zs.length ≤ 4096) (w : World) (hL : IntsAt w w.heap.size v zs) (hall : (laidW 0 zs).all mayP = false) :
    Calls Try.prog 19 #[v] w fun e w' => e = .returned (.tuple #[.slice none 0 0, .bool false]) ∧ Below w.heap.size w w' :=
  (refLay_any v zs hlen w hL).mono fun e w' h => by
    obtain ⟨hb, ⟨ks, u, e1, hv, _⟩ | ⟨_, he⟩⟩ := h
    · rw [e1, toI_may ks hv] at hall; cases hall
    · exact ⟨he, hb⟩
def RefYes (w : World) (ks : List Nat) (e : Ending) (w' : World) : Prop :=
  ∃ a c, e = .returned (.tuple #[.slice a ks.length c, .bool true]) ∧ Below w.heap.size w w' ∧ IntsAt w' w'.heap.size (.slice a ks.length c) (posF ks)
theorem toI_inj (ks js : List Nat) (h : toI ks = toI js) : ks = js := by
  simpa [toI, Function.comp_def] using congrArg (List.map Int.toNat) h
theorem refLay_yes (v : Value) (ks : List Nat) (hlen : (toI ks).length ≤ 4096) (w : World) (hL : IntsAt w w.heap.size v (toI ks)) (hv : Valid ks) :
    Calls Try.prog 19 #[v] w (RefYes w ks) :=
  (refLay_any v (toI ks) hlen w hL).mono fun e w' h => by
    obtain ⟨hb, ⟨js, u, e1, _, he, _, hr⟩ | ⟨hf, _⟩⟩ := h
    · obtain rfl := toI_inj _ _ e1
      have hI := intsAt_of_row (zs := posF ks) (by rw [posF_length]; exact hr)
      obtain ⟨a, c, e2, hc⟩ := id hI
      rw [posF_length] at e2
      subst e2
      exact ⟨a, c, he, hb, hI⟩
    · rw [toI_may ks hv] at hf; cases hf
set_option maxRecDepth 100000 in
set_option maxHeartbeats 8000000 in
theorem lays_any (a : Option Addr) (len cap : Nat) (zs : List Int) (hlen : len ≤ 9223372036854775807) (hcap : len ≤ cap) (w : World) (hz : NumsIn .i64 w a len zs) :
    Calls Try.prog 4 #[.slice a len cap] w fun e w' => e = .returned (.bool true) ∧ Below w.heap.size w w' := by
  obtain ⟨i0, hi, hz0, hz1, hz2⟩ := info_parts infoInt
  obtain ⟨m, hm⟩ : ∃ m, m = min len 80 := ⟨_, rfl⟩
  have hm1 : m ≤ len := by omega
  have hm2 : m ≤ 80 := by omega
  have HZ := Lib.hid hz
  have hcase : (len < 80 ∧ m = len) ∨ (80 < len ∧ m = 80) ∨ (len = 80 ∧ m = 80) := by omega
  clear hz hm
  go_enter Try.func4, Try.ntmps4
  go_upto_region 1 with (fail)
  go_cut [0] (fun s0 wx => s0 = .slice a m cap ∧ wx = w)
  case first =>
    rcases hcase with ⟨h1, rfl⟩ | ⟨h1, rfl⟩ | ⟨rfl, rfl⟩
    all_goals (go_wp2_with fail; all_goals (go_meet; exact ⟨rfl, rfl⟩))
  case rest =>
    obtain ⟨rfl, rfl⟩ := hcut
    clear hcase hlen hcap
    go_wp2_with fail
    go_loopw [3, 4] (fun v i wr => ∃ k : Nat, k ≤ m ∧ i = .int .i64 (k : Int) ∧ wr.ownsRow wc.heap.size 3 1 v k ((smalls zs k).map (Value.int .i64)) ∧ Below wc.heap.size wc wr)
      (fun _ i _ => m - (intOf i).toNat)
    case atStart => exact ⟨0, by omega, rfl, World.ownsRow_nil _ _ _ _, Below.refl _ _⟩
    case round =>
      obtain ⟨k, hk, rfl, hrow, hB⟩ := hrel
      have hh := hB.size
      by_cases hlt : k < m
      · obtain ⟨b, off, rfl, hb, hc, hwf⟩ := HZ.out k (by omega)
        replace hc := (hB.cell (p := ⟨b, off + k, none⟩) hb).trans hc
        have hss := smalls_succ zs k
        generalize zs.getD k 0 = z at *
        have HS := Lib.hid hss
        clear hss HZ hwf
        go_wp2_with (at_builtin; refine wpList_append_own _ rfl _ _ 40 rfl wc.heap.size 3 i0 (.int .i64 0) 1 8 Try.underlying40 hi hz0 hz1 hz2 rfl (by decide) _ _ _ rfl (hrow.alloc _) ⟨wr.heap.size, 0, none⟩ 1 1 [_] rfl rfl (cell_one_new _ _ _) (by simp [Value.oneCell']) (by unfold maxLen; omega) (by omega) (by simp; omega) ?_; intro v' w2 hown' hgrow _; have hgb := grown_below hgrow hrow hh)
        go_roundw
        case rel => exact ⟨k + 1, by omega, by go_num, by rw [HS.out]; simpa [small] using hown', hB.trans hgb⟩
        case measure => simp [intOf]; omega
      · obtain rfl : k = m := by omega
        have IA : IntsAt wr wr.heap.size (.slice a k cap) (firsts zs k) := by
          refine ⟨a, cap, by rw [firsts_length], fun i hi => ?_⟩
          rw [firsts_length] at hi
          obtain ⟨b, off, e, hb, hc, _⟩ := HZ.out i (by omega)
          rw [firsts_get zs k i hi]
          exact ⟨b, off, e, by omega, (hB.cell (p := ⟨b, off + i, none⟩) hb).trans hc⟩
        have IB : IntsAt wr wr.heap.size u3 (smalls zs k) := intsAt_of_row (by rw [smalls_length]; exact hrow)
        obtain ⟨ua, uc, rfl⟩ : ∃ ua uc, u3 = .slice ua k uc := by
          obtain ⟨ua, uc, e, _⟩ := IB
          rw [smalls_length] at e
          exact ⟨ua, uc, e⟩
        have HA := Lib.hid IA
        have HB := Lib.hid IB
        clear IA IB HZ hrow
        obtain ⟨wo, rfl⟩ : ∃ wo : World, wo = wr := ⟨_, rfl⟩
        go_wp2_with fail
        go_loopw [36] (fun i wz => ∃ r : Nat, r ≤ 2 ∧ i = .int .i64 (r : Int) ∧ Below wo.heap.size wo wz)
          (fun i _ => 2 - (intOf i).toNat)
        case atStart => exact ⟨0, by omega, rfl, Below.refl _ _⟩
        case round =>
          obtain ⟨r, hr, rfl, hD⟩ := hrel
          by_cases hr2 : r < 2
          · obtain ⟨va, vc, l, hl, hI, hidx⟩ : ∃ (va : Option Addr) (vc : Nat) (l : List Int), l.length = k ∧ IntsAt wo wo.heap.size (.slice va k vc) l ∧ ∀ W : World, (Instr.index 41 (.agg #[.slice a k cap, .slice ua k uc]) (.int .i64 (r : Int))).run Try.prog W = .ok (.slice va k vc) W := by
              have : r = 0 ∨ r = 1 := by omega
              rcases this with rfl | rfl
              · exact ⟨a, cap, firsts zs k, firsts_length zs k, HA.out, fun W => by kernel_rfl⟩
              · exact ⟨ua, uc, smalls zs k, smalls_length zs k, HB.out, fun W => by kernel_rfl⟩
            have hl80 : l.length ≤ 4096 := by omega
            have hIw : IntsAt wr wr.heap.size (.slice va k vc) l := intsAt_mono (hI.below hD) hD.size
            have hfin : ∀ W : World, Below wr.heap.size wr W → Below wo.heap.size wo W := fun W h => hD.trans (h.mono hD.size)
            have HF := Lib.hid hfin
            have HI := Lib.hid hIw
            clear hI hfin
            cases hall : (laidW 0 l).all mayP
            · have L1 := lay_no _ rfl l hl80 wr hIw hall
              have L2 := fun (W : World) (h : IntsAt W W.heap.size (.slice va k vc) l) => refLay_no _ l hl80 W h hall
              have H1 := Lib.hid L1
              have H2 := Lib.hid L2
              clear L1 L2 hall hIw HA HB
              go_wp2_with fail
              refine H1.out.mono ?_
              rintro e w3 ⟨rfl, hb3⟩
              go_wp2_with fail
              refine (H2.out _ (intsAt_mono (HI.out.below hb3) hb3.size)).mono ?_
              rintro e w4 ⟨rfl, hb4⟩
              go_wp2_with fail
              refine wp_loop_rounds 1 ?_
              rw [rounds_succ]
              go_wp2_with fail
              go_roundw
              case rel => exact ⟨r + 1, by omega, by go_num, HF.out _ (hb3.trans (hb4.mono hb3.size))⟩
              case measure => simp [intOf]; omega
            · obtain ⟨ks, e, hV⟩ := valid_of l [] ⟨by simp, by simp⟩ (by simpa [toI] using hall)
              simp only [toI, List.map_nil, List.nil_append] at e
              replace e : l = toI ks := e
              subst e
              rw [toI_length] at hl
              subst hl
              have hks : ks.length ≤ 80 := by omega
              have L1 := lay_yes (.slice va ks.length vc) rfl (toI ks) hl80 wr hIw hall
              rw [show (0 : Int) = ((0 : Nat) : Int) from rfl, laidW_row ks 0 (by have := hV.sum; omega)] at L1
              have L2 := fun (W : World) (h : IntsAt W W.heap.size (.slice va ks.length vc) (toI ks)) => refLay_yes _ ks hl80 W h hV
              have H1 := Lib.hid L1
              have H2 := Lib.hid L2
              clear L1 L2 hall hIw HA HB hl80
              go_wp2_with fail
              refine H1.out.mono ?_
              rintro e w3 ⟨u, rfl, hb3, hFA⟩
              obtain ⟨b, F3⟩ := fRow_of _ _ _ _ hFA
              obtain ⟨fa, fc, rfl, hfa⟩ := F3.val
              clear hFA
              go_wp2_with fail
              refine (H2.out _ (intsAt_mono (HI.out.below hb3) hb3.size)).mono ?_
              rintro e w4 ⟨ra, rc, rfl, hb4, P4⟩
              have F4 := F3.below hb4
              have I4 := intsAt_mono ((intsAt_mono (HI.out.below hb3) hb3.size).below hb4) hb4.size
              have B4 := HF.out _ (hb3.trans (hb4.mono hb3.size))
              have HP4 := Lib.hid P4
              have HF4 := Lib.hid F4
              have HI4 := Lib.hid I4
              have HV := Lib.hid hV
              clear F3 F4 P4 I4 hb3 hb4 hV HF HI H1 H2
              go_wp2_with fail
              go_loopw [10] (fun i wz => ∃ j : Nat, j ≤ ks.length ∧ i = .int .i64 (j : Int) ∧ Below w4.heap.size w4 wz)
                (fun i _ => ks.length - (intOf i).toNat)
              case atStart => exact ⟨0, by omega, rfl, Below.refl _ _⟩
              case round =>
                obtain ⟨j, hj, rfl, hE⟩ := hrel
                by_cases hlt : j < ks.length
                · obtain rfl := hfa (by omega)
                  have Fz := HF4.out.below hE
                  obtain ⟨r0, r1⟩ := Fz.cell j hlt
                  obtain ⟨_, _, ep, hpc⟩ := HP4.out.below hE
                  obtain ⟨pb, poff, eq1, hpb, hp0⟩ := hpc j (by rw [posF_length]; exact hlt)
                  obtain ⟨_, _, el, hlc⟩ := HI4.out.below hE
                  obtain ⟨lb, loff, eq2, hlb, hl0⟩ := hlc j (by rw [toI_length]; exact hlt)
                  rw [posF_get ks j hlt] at hp0
                  rw [toI_get ks j hlt] at hl0
                  simp only [Value.slice.injEq] at ep el
                  obtain ⟨rfl, x1, rfl⟩ := ep
                  obtain ⟨rfl, x2, rfl⟩ := el
                  clear x1 x2
                  subst eq1
                  subst eq2
                  have HZ := Lib.hid Fz
                  clear hpc hlc Fz
                  go_wp2_with fail
                  go_quiet (fail)
                  go_wp2_with fail
                  have hE2 := below_drewN'' hE nq
                  clear r0 r1 hp0 hl0 hE
                  go_loopw [11] (fun i wz => ∃ q : Nat, q ≤ ks.length ∧ i = .int .i64 (q : Int) ∧ Below w4.heap.size w4 wz)
                    (fun i _ => ks.length - (intOf i).toNat)
                  case atStart => exact ⟨0, by omega, rfl, hE2⟩
                  case round =>
                    obtain ⟨q, hq, rfl, hG⟩ := hrel
                    by_cases hq2 : q < ks.length
                    · have Fq := HF4.out.below hG
                      have A1 := ap_pair ks HV.out j q hlt hq2
                      obtain ⟨r0, r1⟩ := Fq.cell j hlt
                      obtain ⟨s0, s1⟩ := Fq.cell q hq2
                      have Aj : ∃ a0 : Nat, atF ks j = a0 := ⟨_, rfl⟩
                      have Kj : ∃ k0 : Nat, ks.getD j 0 = k0 := ⟨_, rfl⟩
                      have Aq : ∃ a1 : Nat, atF ks q = a1 := ⟨_, rfl⟩
                      have Kq : ∃ k1 : Nat, ks.getD q 0 = k1 := ⟨_, rfl⟩
                      obtain ⟨a0, ea0⟩ := Aj
                      obtain ⟨k0, ek0⟩ := Kj
                      obtain ⟨a1, ea1⟩ := Aq
                      obtain ⟨k1, ek1⟩ := Kq
                      rw [ea0] at r0
                      rw [ek0] at r1
                      rw [ea1] at s0
                      rw [ek1] at s1
                      rw [ea0, ek0, ea1, ek1] at A1
                      have HA1 := Lib.hid A1
                      have Ea0 := Lib.hid ea0
                      have Ek0 := Lib.hid ek0
                      have Ea1 := Lib.hid ea1
                      have Ek1 := Lib.hid ek1
                      clear A1 Fq ea0 ek0 ea1 ek1
                      by_cases hjq : j = q
                      · subst hjq
                        obtain rfl : a0 = a1 := Ea0.out.symm.trans Ea1.out
                        obtain rfl : k0 = k1 := Ek0.out.symm.trans Ek1.out
                        clear s0 s1
                        have hbb : (j != j) = false := by simp
                        rw [hbb] at HA1
                        go_wp2_with fail
                        go_region_held3 (fun w' => w'.cell? ⟨b, j * 2, none⟩ = some (.int .i64 (a0 : Int)) ∧ w'.cell? ⟨b, j * 2 + 1, none⟩ = some (.int .i64 (k0 : Int))) (first | exact ⟨r0, r1⟩ | go_keep) (first
                          | (go_at_call 13; refine (HA1.out _).mono ?_; rintro e w6 ⟨rfl, hb⟩; replace hG := hG.drew.trans (hb.mono hG.size); clear r0 r1; obtain ⟨r0, r1⟩ := (HF4.out.below hG).cell j hlt; rw [Ea0.out] at r0; rw [Ek0.out] at r1))
                        go_wp2
                        go_roundw
                        case rel => exact ⟨j + 1, by omega, by go_num, hG⟩
                        case measure => simp [intOf]; omega
                      · have hbb : (j != q) = true := by rw [bne_iff_ne]; omega
                        rw [hbb] at HA1
                        have hne1 : ((j : Int) == (q : Int)) = false := by rw [beq_eq_false_iff_ne]; omega
                        have hne2 : (j == q) = false := by rw [beq_eq_false_iff_ne]; omega
                        have HJ := Lib.hid hjq
                        clear hjq hbb
                        go_wp2_with fail
                        go_region_held3 (fun w' => w'.cell? ⟨b, j * 2, none⟩ = some (.int .i64 (a0 : Int)) ∧ w'.cell? ⟨b, j * 2 + 1, none⟩ = some (.int .i64 (k0 : Int)) ∧ w'.cell? ⟨b, q * 2, none⟩ = some (.int .i64 (a1 : Int)) ∧ w'.cell? ⟨b, q * 2 + 1, none⟩ = some (.int .i64 (k1 : Int))) (first | exact ⟨r0, r1, s0, s1⟩ | go_keep) (first
                          | (go_at_call 13; refine (HA1.out _).mono ?_; rintro e w6 ⟨rfl, hb⟩; replace hG := hG.drew.trans (hb.mono hG.size); clear r0 r1 s0 s1; obtain ⟨r0, r1⟩ := (HF4.out.below hG).cell j hlt; obtain ⟨s0, s1⟩ := (HF4.out.below hG).cell q hq2; rw [Ea0.out] at r0; rw [Ek0.out] at r1; rw [Ea1.out] at s0; rw [Ek1.out] at s1))
                        go_wp2
                        go_roundw
                        case rel => exact ⟨q + 1, by omega, by go_num, hG⟩
                        case measure => simp [intOf]; omega
                    · go_wp2
                      go_roundw
                      case rel => exact ⟨j + 1, by omega, by go_num, hG⟩
                      case measure => simp [intOf]; omega
                · go_wp2
                  go_roundw
                  case rel => exact ⟨r + 1, by omega, by go_num, B4.trans (hE.mono B4.size)⟩
                  case measure => simp [intOf]; omega
          · obtain rfl : r = 2 := by omega
            go_wp2_with fail
            refine (works_any _).mono ?_
            rintro e w3 ⟨rfl, hb3⟩
            go_wp2_with fail
            go_ret
            exact ⟨rfl, hB.trans ((hD.trans (hb3.mono hD.size)).mono hB.size)⟩
end Lays
end Go.Proofs.Ytdfnldgjgaieeaa
