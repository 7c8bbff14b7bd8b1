/- ScriptBack returns true. -/
import Derived.Test.YtjoflgcggdfomaaGreatDoorScBackLaw
import Derived.Test.YtjoflgcggdfomaaGreatDoorScInts
namespace Go.Proofs.YtjoflgcggdfomaaGreatDoor
open Go.ChangeShapes Go.WideShapes Go.ChangeAt Go.RowKit Go.Maps
set_option linter.unusedVariables false
set_option maxRecDepth 100000
set_option linter.unusedSimpArgs false
theorem decode_row (s : ByteArray) (m : Nat) (hm : m ≤ 100) (w : World) :
    Calls Tryz.prog 9 #[.string (s.extract 0 m)] w fun e w' => ∃ (a : Option Addr) (n c : Nat) (L : List Pk), n ≤ 100 ∧ e = .returned (.slice a n c) ∧ Below w.heap.size w w' ∧ L.length = n ∧ n ≤ c ∧ w'.ownsRow w.heap.size 45 2 (.slice a n c) n (pkCells L) ∧ Hid (∀ p ∈ L, okPk p = true) := by
  have hz : (s.extract 0 m).size ≤ 100 := by rw [ByteArray.size_extract]; omega
  refine (decode_any _ w (by omega)).mono ?_
  rintro e w' ⟨v, rfl, hb, ho⟩
  obtain ⟨a, c, rfl, hc, _⟩ := id (PicksAt.own ho)
  exact ⟨a, _, c, _, by rw [decodeL_len]; exact hz, rfl, hb, rfl, hc, ho, Lib.hid (decode_ok _)⟩
/-- how far the text is, i picks printed -/
structure Txt (L : List Pk) (i : Nat) (T : ByteArray) : Prop where
  txt : ∃ G : List (Nat × Pk), T.data.toList = gapped G ∧ G.map (·.2) = L.take i ∧ ∀ x ∈ G, okPk x.2 = true ∧ x.1 ≤ 4
  ok : ∀ p ∈ L, okPk p = true
theorem Txt.set {L : List Pk} {i : Nat} {T : ByteArray} (h : Txt L i T) (q : Pk) (hq : okPk q = true) : Txt (L.set i q) i T := by
  obtain ⟨⟨G, h1, h2, h3⟩, h4⟩ := h
  refine ⟨⟨G, h1, ?_, h3⟩, fun p hp => ?_⟩
  · rw [h2, List.take_set_of_le (Nat.le_refl i)]
  · rcases List.mem_or_eq_of_mem_set hp with hp | rfl
    · exact h4 p hp
    · exact hq
theorem Txt.next {L : List Pk} {i : Nat} {T T' : ByteArray} (h : Txt L i T) (p : Pk) (hp : L[i]? = some p) (g : Nat) (hg : g ≤ 4) (ht : T'.data.toList = T.data.toList ++ (List.replicate (g + 1) 32 ++ wordB p)) : Txt L (i + 1) T' := by
  obtain ⟨⟨G, h1, h2, h3⟩, h4⟩ := h
  refine ⟨⟨G ++ [(g, p)], ?_, ?_, fun x hx => ?_⟩, h4⟩
  · rw [ht, h1, gapped_snoc]
  · rw [List.map_append, h2, List.take_add_one, hp]; rfl
  · rw [List.mem_append] at hx
    rcases hx with hx | hx
    · exact h3 x hx
    · simp at hx; subst hx; exact ⟨h4 p (List.mem_of_getElem? hp), hg⟩
theorem Txt.size {L : List Pk} {i : Nat} {T : ByteArray} (h : Txt L i T) : T.size ≤ 11 * L.length := by
  obtain ⟨⟨G, h1, h2, h3⟩, h4⟩ := h
  have := gapped_len G h3
  rw [← h1] at this
  have e : G.length = (L.take i).length := by rw [← h2, List.length_map]
  rw [List.length_take] at e
  have e2 : T.data.toList.length = T.size := by simp
  omega
theorem print_one (v : Value) (p : Pk) (w : World) (ht : TieW w) (hv : PicksAt w w.heap.size v [p]) (hp : okPk p = true) :
    Calls Tryz.prog 17 #[v] w fun e w' => e = .returned (strV (wordB p)) ∧ Below w.heap.size w w' := by
  have h := print_any v [p] w ht hv (by simp) (fun q hq => by simp at hq; subst hq; exact okPk_wf hp)
  have e : printL [p] = wordB p := by unfold printL; rw [List.map_cons, List.map_nil, Lib.join_one]
  rw [e] at h
  exact h
theorem one_pick {w : World} {B g n c I : Nat} {L : List Pk} {p : Pk} (h : w.ownsRow B 45 2 (.slice (some ⟨g, 0, none⟩) n c) n (pkCells L)) (hL : L.length = n) (hp : L[I]? = some p) :
    PicksAt w w.heap.size (.slice (some ⟨g, I * 2, none⟩) 1 (c - I)) [p] := by
  subst hL
  have hI := (List.getElem?_eq_some_iff.1 hp)
  obtain ⟨hI1, hI2⟩ := hI
  have h2 := (PicksAt.own h).sub I 1 (by omega)
  rw [List.drop_eq_getElem_cons hI1, hI2, Nat.zero_add] at h2
  simpa using h2
theorem okPk_set {p : Pk} {z : Int} (h : okPk p = true) (z0 : 0 ≤ z) (z1 : z ≤ 65535) : okPk (z, p.2) = true := by
  unfold okPk at h ⊢
  simp only [Bool.and_eq_true, decide_eq_true_eq] at h ⊢
  exact ⟨⟨z0, by omega⟩, h.2⟩
theorem idx_u16 (tn tc b o I : Nat) (h : 0 < tn) : ∀ W, (Instr.indexAt 49 (.slice (some ⟨b, o, none⟩) tn tc) (.int .i64 ((I : Int) % (tn : Int)))).run Tryz.prog W = .ok (.pointer (some ⟨b, o + I % tn, none⟩)) W := by
  intro W
  have h1 : I % tn < tn := Nat.mod_lt _ h
  rw [← Int.natCast_emod]
  generalize I % tn = q at h1 ⊢
  go_simp
theorem idx_u8 (tn tc b o I : Nat) (h : 0 < tn) : ∀ W, (Instr.indexAt 50 (.slice (some ⟨b, o, none⟩) tn tc) (.int .i64 ((I : Int) % (tn : Int)))).run Tryz.prog W = .ok (.pointer (some ⟨b, o + I % tn, none⟩)) W := by
  intro W
  have h1 : I % tn < tn := Nat.mod_lt _ h
  rw [← Int.natCast_emod]
  generalize I % tn = q at h1 ⊢
  go_simp
set_option maxHeartbeats 4000000 in
theorem back_law (s : ByteArray) (ta ga : Option Addr) (tn tc gn gc : Nat) (w : World) (ht : TieW w) (hT : IntsAt .u16 w w.heap.size ta tn) (hG : IntsAt .u8 w w.heap.size ga gn) :
    Calls Tryz.prog 7 #[.string s, .slice ta tn tc, .slice ga gn gc] w fun e w' => e = .returned (.bool true) ∧ Below w.heap.size w w' := by
  have HW := Lib.hid (works_any w ht)
  have HD := Lib.hid (fun (m : Nat) (hm : m ≤ 100) (w1 : World) => decode_row s m hm w1)
  have HT := Lib.hid hT
  have HG := Lib.hid hG
  have HTie := Lib.hid ht
  clear ht hT hG
  go_enter Tryz.func7, Tryz.ntmps7
  go_upto_region 4 with (first
    | (go_at_call 12; refine HW.out.mono ?_; rintro e w1 ⟨rfl, b1⟩)
    | (go_at_call 9; refine (HD.out _ (by omega) w1).mono ?_; rintro e w2 ⟨a, n, c, L0, hn, rfl, b2, hL0, hc, ho, hok⟩))
  have s1 := b1.size
  have Z2 := b1.trans (b2.mono b1.size)
  clear b1 b2 HW HD
  go_upto_region 6 with fail
  go_loopw [8, 9] (fun vt vi wr => ∃ (I : Nat) (L : List Pk) (T : ByteArray), I ≤ n ∧ vt = .string T ∧ vi = .int .i64 (I : Int) ∧ L.length = n ∧ Hid (Txt L I T) ∧ wr.ownsRow w1.heap.size 45 2 (.slice a n c) n (pkCells L) ∧ Below w.heap.size w wr)
    (fun _ vi _ => n - (intOf vi).toNat)
  case atStart => exact ⟨0, L0, ⟨#[]⟩, by omega, rfl, rfl, hL0, Lib.hid ⟨⟨[], rfl, rfl, by simp⟩, hok.out⟩, ho, Z2⟩
  case round =>
    obtain ⟨I, L, T, hI, rfl, rfl, hL, hX, hrow, hb⟩ := hrel
    by_cases hlt : I < n
    · obtain ⟨g, hg, hgB⟩ : ∃ g, a = some ⟨g, 0, none⟩ ∧ w1.heap.size ≤ g := by
        rcases hrow.2 with ⟨h, h0⟩ | ⟨g', cap', cur, h, hgb, _⟩
        · omega
        · simp at h; exact ⟨g', h.1, hgb⟩
      subst hg
      have hTz : T.size ≤ 1100 := by have := hX.out.size; omega
      obtain ⟨p, hp⟩ : ∃ p, L[I]? = some p := ⟨_, List.getElem?_eq_getElem (by omega)⟩
      have hpk := hX.out.ok p (List.mem_of_getElem? hp)
      obtain ⟨e0, e1⟩ := pkCells_at L I p hp
      have c0 := hrow.cellAt (I * 2) (by omega)
      have f0 := hrow.frozenAt (I * 2)
      rw [e0] at c0
      rcases Nat.eq_zero_or_pos tn with hth | hth
      · have h0 : ¬ (0 < (tn : Int)) := by omega
        clear hth
        go_upto_region 10 with fail
        have R4 : Hid (∃ L4 : List Pk, L4.length = n ∧ Txt L4 I T ∧ wr.ownsRow w1.heap.size 45 2 (.slice (some ⟨g, 0, none⟩) n c) n (pkCells L4)) := Lib.hid ⟨L, hL, hX.out, hrow⟩
        have B4 := Lib.hid hb
        clear hrow hb c0 f0 h0
        generalize wr = W4 at *
        clear e0 e1 hpk hX
        obtain ⟨L4, hL4, hX4, hrow4⟩ := R4.out
        obtain ⟨p4, hp4⟩ : ∃ p, L4[I]? = some p := ⟨_, List.getElem?_eq_getElem (by omega)⟩
        have hok4 := hX4.ok p4 (List.mem_of_getElem? hp4)
        have HX4 := Lib.hid hX4
        have HR4 := Lib.hid hrow4
        have HPr := Lib.hid (fun (x : World) (v : Value) (hx : TieW x) (hv : PicksAt x x.heap.size v [p4]) => print_one v p4 x hx hv hok4)
        have HP4 := Lib.hid hp4
        have hw6 := wordB_six hok4
        clear R4 hX4 hrow4 hok4 hp4 hp
        rcases Nat.eq_zero_or_pos gn with hgn | hgn
        · have h0 : ¬ (0 < (gn : Int)) := by omega
          clear hgn
          go_upto_region 13 with fail
          have RW := HR4.out
          have BW := B4.out
          have HPk := Lib.hid (one_pick RW hL4 HP4.out)
          have HTw := Lib.hid (HTie.out.on BW)
          have RWH := Lib.hid RW
          have BWH := Lib.hid BW
          clear RW BW
          go_wp2_with (go_at_call 17; (with_reducible refine (HPr.out _ _ HTw.out HPk.out).mono ?_); rintro e x1 ⟨rfl, b1⟩)
          go_roundw
          case rel => exact ⟨I + 1, L4, _, by omega, rfl, by go_num, hL4, Lib.hid (HX4.out.next p4 HP4.out 0 (by decide) (by simp [List.replicate])), own_keep RWH.out b1 (own_lt RWH.out), BWH.out.trans (b1.mono BWH.out.size)⟩
          case measure => simp [intOf]; omega
        · obtain ⟨b', o', x, rfl, hbx, hcx, hwx⟩ := HG.out (I % gn) (Nat.mod_lt _ hgn)
          have hx : 0 ≤ x ∧ x ≤ 255 := wf_u8 hwx
          obtain ⟨x0, x1⟩ := hx
          have h0 : 0 < (gn : Int) := by omega
          have hn0 : ¬ ((gn : Int) = 0) := by omega
          have hix := idx_u8 gn gc b' o' I hgn
          have A5 : Below W4.heap.size W4 (W4.alloc (.cells #[.string ⟨#[32]⟩, .string ⟨#[32, 32]⟩, .string ⟨#[32, 32, 32, 32, 32]⟩] 9)) := (Below.refl _ W4).alloc (Nat.le_refl _) _
          have k0 := (Blk.new W4 9 #[.string ⟨#[32]⟩, .string ⟨#[32, 32]⟩, .string ⟨#[32, 32, 32, 32, 32]⟩]).cell 0 _ rfl
          have k1 := (Blk.new W4 9 #[.string ⟨#[32]⟩, .string ⟨#[32, 32]⟩, .string ⟨#[32, 32, 32, 32, 32]⟩]).cell 1 _ rfl
          have k2 := (Blk.new W4 9 #[.string ⟨#[32]⟩, .string ⟨#[32, 32]⟩, .string ⟨#[32, 32, 32, 32, 32]⟩]).cell 2 _ rfl
          replace hcx := ((B4.out.trans (A5.mono B4.out.size)).cell (p := ⟨b', o' + I % gn, none⟩) hbx).trans hcx
          clear hwx
          rcases (show x % 3 = 0 ∨ x % 3 = 1 ∨ x % 3 = 2 by omega) with hx | hx | hx
          · go_upto_region 13 with fail
            have RW := own_keep HR4.out A5 (own_lt HR4.out)
            have BW := B4.out.trans (A5.mono B4.out.size)
            generalize hW5 : W4.alloc (.cells #[.string ⟨#[32]⟩, .string ⟨#[32, 32]⟩, .string ⟨#[32, 32, 32, 32, 32]⟩] 9) = W5 at *
            clear k0 k1 k2 hcx hW5 hx
            have HPk := Lib.hid (one_pick RW hL4 HP4.out)
            have HTw := Lib.hid (HTie.out.on BW)
            have RWH := Lib.hid RW
            have BWH := Lib.hid BW
            clear RW BW
            go_wp2_with (go_at_call 17; (with_reducible refine (HPr.out _ _ HTw.out HPk.out).mono ?_); rintro e x1 ⟨rfl, b1⟩)
            go_roundw
            case rel => exact ⟨I + 1, L4, _, by omega, rfl, by go_num, hL4, Lib.hid (HX4.out.next p4 HP4.out 0 (by decide) (by simp [List.replicate])), own_keep RWH.out b1 (own_lt RWH.out), BWH.out.trans (b1.mono BWH.out.size)⟩
            case measure => simp [intOf]; omega
          · go_upto_region 13 with fail
            have RW := own_keep HR4.out A5 (own_lt HR4.out)
            have BW := B4.out.trans (A5.mono B4.out.size)
            generalize hW5 : W4.alloc (.cells #[.string ⟨#[32]⟩, .string ⟨#[32, 32]⟩, .string ⟨#[32, 32, 32, 32, 32]⟩] 9) = W5 at *
            clear k0 k1 k2 hcx hW5 hx
            have HPk := Lib.hid (one_pick RW hL4 HP4.out)
            have HTw := Lib.hid (HTie.out.on BW)
            have RWH := Lib.hid RW
            have BWH := Lib.hid BW
            clear RW BW
            go_wp2_with (go_at_call 17; (with_reducible refine (HPr.out _ _ HTw.out HPk.out).mono ?_); rintro e x1 ⟨rfl, b1⟩)
            go_roundw
            case rel => exact ⟨I + 1, L4, _, by omega, rfl, by go_num, hL4, Lib.hid (HX4.out.next p4 HP4.out 1 (by decide) (by simp [List.replicate])), own_keep RWH.out b1 (own_lt RWH.out), BWH.out.trans (b1.mono BWH.out.size)⟩
            case measure => simp [intOf]; omega
          · go_upto_region 13 with fail
            have RW := own_keep HR4.out A5 (own_lt HR4.out)
            have BW := B4.out.trans (A5.mono B4.out.size)
            generalize hW5 : W4.alloc (.cells #[.string ⟨#[32]⟩, .string ⟨#[32, 32]⟩, .string ⟨#[32, 32, 32, 32, 32]⟩] 9) = W5 at *
            clear k0 k1 k2 hcx hW5 hx
            have HPk := Lib.hid (one_pick RW hL4 HP4.out)
            have HTw := Lib.hid (HTie.out.on BW)
            have RWH := Lib.hid RW
            have BWH := Lib.hid BW
            clear RW BW
            go_wp2_with (go_at_call 17; (with_reducible refine (HPr.out _ _ HTw.out HPk.out).mono ?_); rintro e x1 ⟨rfl, b1⟩)
            go_roundw
            case rel => exact ⟨I + 1, L4, _, by omega, rfl, by go_num, hL4, Lib.hid (HX4.out.next p4 HP4.out 4 (by decide) (by simp [List.replicate])), own_keep RWH.out b1 (own_lt RWH.out), BWH.out.trans (b1.mono BWH.out.size)⟩
            case measure => simp [intOf]; omega
      · obtain ⟨b, o, z, rfl, hbn, hcz, hwz⟩ := HT.out (I % tn) (Nat.mod_lt _ hth)
        replace hcz := (hb.cell (p := ⟨b, o + I % tn, none⟩) hbn).trans hcz
        have hz : 0 ≤ z ∧ z ≤ 65535 := by simpa [Lit.wf, IntKind.min, IntKind.max, IntKind.signed, IntKind.bits] using hwz
        obtain ⟨z0, z1⟩ := hz
        have h0 : 0 < (tn : Int) := by omega
        have hn0 : ¬ ((tn : Int) = 0) := by omega
        have hix := idx_u16 tn tc b o I hth
        have HR := Lib.hid hrow
        clear hrow
        go_upto_region 10 with fail
        have R4 : Hid (∃ L4 : List Pk, L4.length = n ∧ Txt L4 I T ∧ (wr.setCell ⟨g, I * 2, none⟩ (.int .i64 z)).ownsRow w1.heap.size 45 2 (.slice (some ⟨g, 0, none⟩) n c) n (pkCells L4)) := Lib.hid ⟨L.set I (z, p.2), by simp [hL], hX.out.set _ (okPk_set hpk z0 z1), by rw [← pkCells_set L I p z hp]; exact (HR.out.stored (I * 2) _).1⟩
        have B4 := Lib.hid (hb.setCell (p := ⟨g, I * 2, none⟩) (by simp; omega) (.int .i64 z))
        clear hix hcz hwz h0 hn0 c0 f0 HR hb
        generalize wr.setCell ⟨g, I * 2, none⟩ (.int .i64 z) = W4 at *
        clear e0 e1 hpk hX
        obtain ⟨L4, hL4, hX4, hrow4⟩ := R4.out
        obtain ⟨p4, hp4⟩ : ∃ p, L4[I]? = some p := ⟨_, List.getElem?_eq_getElem (by omega)⟩
        have hok4 := hX4.ok p4 (List.mem_of_getElem? hp4)
        have HX4 := Lib.hid hX4
        have HR4 := Lib.hid hrow4
        have HPr := Lib.hid (fun (x : World) (v : Value) (hx : TieW x) (hv : PicksAt x x.heap.size v [p4]) => print_one v p4 x hx hv hok4)
        have HP4 := Lib.hid hp4
        have hw6 := wordB_six hok4
        clear R4 hX4 hrow4 hok4 hp4 hp
        rcases Nat.eq_zero_or_pos gn with hgn | hgn
        · have h0 : ¬ (0 < (gn : Int)) := by omega
          clear hgn
          go_upto_region 13 with fail
          have RW := HR4.out
          have BW := B4.out
          have HPk := Lib.hid (one_pick RW hL4 HP4.out)
          have HTw := Lib.hid (HTie.out.on BW)
          have RWH := Lib.hid RW
          have BWH := Lib.hid BW
          clear RW BW
          go_wp2_with (go_at_call 17; (with_reducible refine (HPr.out _ _ HTw.out HPk.out).mono ?_); rintro e x1 ⟨rfl, b1⟩)
          go_roundw
          case rel => exact ⟨I + 1, L4, _, by omega, rfl, by go_num, hL4, Lib.hid (HX4.out.next p4 HP4.out 0 (by decide) (by simp [List.replicate])), own_keep RWH.out b1 (own_lt RWH.out), BWH.out.trans (b1.mono BWH.out.size)⟩
          case measure => simp [intOf]; omega
        · obtain ⟨b', o', x, rfl, hbx, hcx, hwx⟩ := HG.out (I % gn) (Nat.mod_lt _ hgn)
          have hx : 0 ≤ x ∧ x ≤ 255 := wf_u8 hwx
          obtain ⟨x0, x1⟩ := hx
          have h0 : 0 < (gn : Int) := by omega
          have hn0 : ¬ ((gn : Int) = 0) := by omega
          have hix := idx_u8 gn gc b' o' I hgn
          have A5 : Below W4.heap.size W4 (W4.alloc (.cells #[.string ⟨#[32]⟩, .string ⟨#[32, 32]⟩, .string ⟨#[32, 32, 32, 32, 32]⟩] 9)) := (Below.refl _ W4).alloc (Nat.le_refl _) _
          have k0 := (Blk.new W4 9 #[.string ⟨#[32]⟩, .string ⟨#[32, 32]⟩, .string ⟨#[32, 32, 32, 32, 32]⟩]).cell 0 _ rfl
          have k1 := (Blk.new W4 9 #[.string ⟨#[32]⟩, .string ⟨#[32, 32]⟩, .string ⟨#[32, 32, 32, 32, 32]⟩]).cell 1 _ rfl
          have k2 := (Blk.new W4 9 #[.string ⟨#[32]⟩, .string ⟨#[32, 32]⟩, .string ⟨#[32, 32, 32, 32, 32]⟩]).cell 2 _ rfl
          replace hcx := ((B4.out.trans (A5.mono B4.out.size)).cell (p := ⟨b', o' + I % gn, none⟩) hbx).trans hcx
          clear hwx
          rcases (show x % 3 = 0 ∨ x % 3 = 1 ∨ x % 3 = 2 by omega) with hx | hx | hx
          · go_upto_region 13 with fail
            have RW := own_keep HR4.out A5 (own_lt HR4.out)
            have BW := B4.out.trans (A5.mono B4.out.size)
            generalize hW5 : W4.alloc (.cells #[.string ⟨#[32]⟩, .string ⟨#[32, 32]⟩, .string ⟨#[32, 32, 32, 32, 32]⟩] 9) = W5 at *
            clear k0 k1 k2 hcx hW5 hx
            have HPk := Lib.hid (one_pick RW hL4 HP4.out)
            have HTw := Lib.hid (HTie.out.on BW)
            have RWH := Lib.hid RW
            have BWH := Lib.hid BW
            clear RW BW
            go_wp2_with (go_at_call 17; (with_reducible refine (HPr.out _ _ HTw.out HPk.out).mono ?_); rintro e x1 ⟨rfl, b1⟩)
            go_roundw
            case rel => exact ⟨I + 1, L4, _, by omega, rfl, by go_num, hL4, Lib.hid (HX4.out.next p4 HP4.out 0 (by decide) (by simp [List.replicate])), own_keep RWH.out b1 (own_lt RWH.out), BWH.out.trans (b1.mono BWH.out.size)⟩
            case measure => simp [intOf]; omega
          · go_upto_region 13 with fail
            have RW := own_keep HR4.out A5 (own_lt HR4.out)
            have BW := B4.out.trans (A5.mono B4.out.size)
            generalize hW5 : W4.alloc (.cells #[.string ⟨#[32]⟩, .string ⟨#[32, 32]⟩, .string ⟨#[32, 32, 32, 32, 32]⟩] 9) = W5 at *
            clear k0 k1 k2 hcx hW5 hx
            have HPk := Lib.hid (one_pick RW hL4 HP4.out)
            have HTw := Lib.hid (HTie.out.on BW)
            have RWH := Lib.hid RW
            have BWH := Lib.hid BW
            clear RW BW
            go_wp2_with (go_at_call 17; (with_reducible refine (HPr.out _ _ HTw.out HPk.out).mono ?_); rintro e x1 ⟨rfl, b1⟩)
            go_roundw
            case rel => exact ⟨I + 1, L4, _, by omega, rfl, by go_num, hL4, Lib.hid (HX4.out.next p4 HP4.out 1 (by decide) (by simp [List.replicate])), own_keep RWH.out b1 (own_lt RWH.out), BWH.out.trans (b1.mono BWH.out.size)⟩
            case measure => simp [intOf]; omega
          · go_upto_region 13 with fail
            have RW := own_keep HR4.out A5 (own_lt HR4.out)
            have BW := B4.out.trans (A5.mono B4.out.size)
            generalize hW5 : W4.alloc (.cells #[.string ⟨#[32]⟩, .string ⟨#[32, 32]⟩, .string ⟨#[32, 32, 32, 32, 32]⟩] 9) = W5 at *
            clear k0 k1 k2 hcx hW5 hx
            have HPk := Lib.hid (one_pick RW hL4 HP4.out)
            have HTw := Lib.hid (HTie.out.on BW)
            have RWH := Lib.hid RW
            have BWH := Lib.hid BW
            clear RW BW
            go_wp2_with (go_at_call 17; (with_reducible refine (HPr.out _ _ HTw.out HPk.out).mono ?_); rintro e x1 ⟨rfl, b1⟩)
            go_roundw
            case rel => exact ⟨I + 1, L4, _, by omega, rfl, by go_num, hL4, Lib.hid (HX4.out.next p4 HP4.out 4 (by decide) (by simp [List.replicate])), own_keep RWH.out b1 (own_lt RWH.out), BWH.out.trans (b1.mono BWH.out.size)⟩
            case measure => simp [intOf]; omega
    · have hIe : I = n := by omega
      subst hIe
      subst hL
      obtain ⟨⟨G, hG1, hG2, hG3⟩, hok2⟩ := hX.out
      rw [List.take_of_length_le (Nat.le_refl _)] at hG2
      have hP := Lib.hid (PicksAt.own hrow)
      have hf1 := print_fields L hok2
      have HB := picks_back L hok2
      have HPr := Lib.hid (print_any (.slice a L.length c) L wr (HTie.out.on hb) (PicksAt.own hrow) (by omega) (fun p hp => okPk_wf (hok2 p hp)))
      have HA1 := Lib.hid (fun x ht => show Calls Tryz.prog 19 #[strV (printL L)] x (fun e w' => ∃ a c, e = .returned (.tuple #[.slice a L.length c, .nilIface]) ∧ Left7 x (.slice a L.length c) L w') from parse_lit ⟨(printL L).toArray⟩ L x (by show (printL L).length ≤ 100000; omega) ht (by show badAt (fieldsB (printL L)) = none; rw [hf1.1]; exact HB.1) (by show picksOf (fieldsB (printL L)) = L; rw [hf1.1]; exact HB.2))
      have hlen : T.size ≤ 11 * G.length := by
        have := gapped_len G hG3
        rw [← hG1] at this
        simpa using this
      have hGl : G.length = L.length := by rw [← hG2, List.length_map]
      have hs2 : (T ++ ⟨#[32, 32]⟩ : ByteArray).size ≤ 100000 := by rw [ByteArray.size_append]; show T.size + 2 ≤ 100000; omega
      have hF2 : fieldsB (T ++ ⟨#[32, 32]⟩ : ByteArray).data.toList = L.map wordB := by
        have e : (T ++ ⟨#[32, 32]⟩ : ByteArray).data.toList = gapped G ++ [32, 32] := by simp [hG1]
        rw [e, gapped_fields G (fun x hx => (hG3 x hx).1), hG2]
      have HA2 := Lib.hid (fun x ht => parse_lit (T ++ ⟨#[32, 32]⟩) L x hs2 ht (by rw [hF2]; exact HB.1) (by rw [hF2]; exact HB.2))
      have HS := Lib.hid (fun u v x hu hv => picks_same u v L x hu hv (by omega))
      have HTw := Lib.hid (HTie.out.on hb)
      have HB0 := Lib.hid hb
      have hTz : T.size ≤ 1100 := by omega
      clear hG1 hG2 hG3 hok2 hf1 HB hlen hs2 hF2 hX hrow hb ho Z2 hGl
      go_wp2_with (first
        | (go_at_call 17; (with_reducible refine HPr.out.mono ?_); rintro e x1 ⟨rfl, b1⟩; have t1 := HTw.out.on b1)
        | (go_at_call 19; (with_reducible refine (HA1.out x1 t1).mono ?_); rintro e x2 ⟨pa, pc, rfl, b2, p2⟩; have t2 := t1.on b2)
        | (go_at_call 19; (with_reducible refine (HA2.out x2 t2).mono ?_); rintro e x3 ⟨qa, qc, rfl, b3, p3⟩; have k3 := (p2.below b3).mono b3.size; have c3 := (b1.trans (b2.mono b1.size)).trans (b3.mono (Nat.le_trans b1.size b2.size)); have o3 := (hP.out.below c3).mono c3.size)
        | (go_at_call 10; (with_reducible refine (HS.out _ _ x3 k3 o3).mono ?_); rintro e x4 ⟨rfl, b4⟩; have q4 := (p3.below b4).mono b4.size; have o4 := (o3.below b4).mono b4.size; have c4 := c3.trans (b4.mono c3.size))
        | (go_at_call 10; (with_reducible refine (HS.out _ _ x4 q4 o4).mono ?_); rintro e x5 ⟨rfl, b5⟩; have c5 := c4.trans (b5.mono c4.size)))
      go_ret
      exact ⟨rfl, HB0.out.trans (c5.mono HB0.out.size)⟩
end Go.Proofs.YtjoflgcggdfomaaGreatDoor
