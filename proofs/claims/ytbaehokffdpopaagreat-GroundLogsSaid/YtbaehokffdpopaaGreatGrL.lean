/- GroundLogs: the law. -/
import Derived.Test.YtbaehokffdpopaaGreatGrJ
namespace Go.Proofs.YtbaehokffdpopaaGreat
open Go.ChangeShapes Go.WideShapes Go.ChangeAt Go.RowKit Wd
set_option linter.unusedVariables false
set_option maxRecDepth 100000
set_option linter.unusedSimpArgs false
/-- an event, as it is noted -/
def kE (e : Ev) : Int := (IntKind.u64.wrap e.kind).tmod 3
def nE (e : Ev) : Ev := if kE e = 0 then ⟨0, e.thr, e.idx, e.act, e.obj, e.oth, 0, 0⟩ else if kE e = 1 then ⟨1, e.thr, 0, e.act, e.obj, e.oth, 0, 0⟩ else ⟨2, e.thr, e.idx, 0, 0, 0, e.code, e.val⟩
theorem kE_range (e : Ev) : kE e = 0 ∨ kE e = 1 ∨ kE e = 2 := by
  unfold kE
  have h : 0 ≤ IntKind.u64.wrap e.kind := by rw [IntKind.wrap_u64]; omega
  rw [Int.tmod_eq_emod_of_nonneg h]
  omega
theorem cell_lt {w : World} {B i : Nat} {t : TypeId} {cs : Array Value} {v : Value} (h : Blk w B t cs) (hc : w.cell? ⟨B, i, none⟩ = some v) : i < cs.size := by
  unfold World.cell? at hc
  rw [show w.heap[B]? = _ from h] at hc
  exact (Array.getElem?_eq_some_iff.1 hc).1
theorem cell_of_below {w w1 : World} {n : Nat} {p : Addr} {v : Value} (h : w.cell? p = some v) (hb : Below n w w1) (hn : n = w.heap.size := by rfl) : w1.cell? p = some v := cell_below h (hn ▸ hb)
def NotedPost (w : World) (g : GrP) (vo : Value) (E : List Ev) (r : Ending) (w' : World) : Prop :=
  r = .returned (.tuple #[]) ∧ ∃ vo', Two w' g vo' E ∧ Keep (fun b => b = g.G ∨ vo.ownBlock = some b) w w' ∧ ∀ b, vo'.ownBlock = some b → vo.ownBlock = some b ∨ w.heap.size ≤ b
theorem noted {w : World} {g : GrP} {vo : Value} {L : List Ev} {i : Nat} {x e : Ev} {r : Ending} {w' : World} (h : NotePost w g m13 (mm0 m13 [5, 6] [true]) 6 [false, false] vo ((L.take i).map nE) x r w') (hx : x = nE e) (he : L[i]? = some e) : NotedPost w g vo ((L.take (i + 1)).map nE) r w' := by
  obtain ⟨rfl, vo', h1, h2, h3⟩ := h
  refine ⟨rfl, vo', ?_, h2, h3⟩
  rw [List.take_add_one, he, List.map_append]
  subst hx
  exact h1
abbrev ev0 : Ev := ⟨0, 0, 0, 0, 0, 0, 0, 0⟩
theorem evC_one (e : Ev) : (evC e).all (·.oneCell') = true := by simp [Value.oneCell']
theorem evC_size : (Tryz.prog.info? 68).map (·.size) = some 8 := by kernel_rfl
theorem ev_ne (e : Ev) (W : World) : (binOp .neq 68 (evV e) (evV e)).run Tryz.prog W = .ok (.bool false) W := by
  go_simp
/-- a slice of events that reads so -/
def EvSl (w : World) (v : Value) (n : Nat) (L : List Ev) : Prop :=
  ∃ a c, v = .slice a n c ∧ ∀ (i : Nat) (e : Ev), L[i]? = some e → ∃ b off, a = some ⟨b, off, none⟩ ∧ ∀ (j : Nat) (u : Value), (evL e)[j]? = some u → w.cell? ⟨b, off + i * 8 + j, none⟩ = some u
theorem EvSl.below {w w1 : World} {v : Value} {n : Nat} {L : List Ev} (h : EvSl w v n L) (hb : Below w.heap.size w w1) : EvSl w1 v n L := by
  obtain ⟨a, c, e, h⟩ := h
  refine ⟨a, c, e, fun i x hx => ?_⟩
  obtain ⟨b, off, e1, e2⟩ := h i x hx
  exact ⟨b, off, e1, fun j u hu => cell_below (e2 j u hu) hb⟩
set_option maxHeartbeats 8000000 in
theorem logs_law (L : List Ev) (n c : Nat) (a : Option Addr) (w : World) (hv : EvSl w (.slice a n c) n L) (hL : L.length = min n 60) (hn : n ≤ 9223372036854775807) (hnc : n ≤ c) :
    Calls Tryz.prog 4 #[.slice a n c] w fun e w' => e = .returned (.bool true) ∧ Below w.heap.size w w' := by
  have HW := Lib.hid fun V => works13_any V
  have HT := Lib.hid fun V => two_any V
  have hesz : Hid ((Tryz.prog.info? 68).map (·.size) = some 8) := Lib.hid evC_size
  have HV := Lib.hid hv
  have HL := Lib.hid hL
  clear hv hL
  go_enter Tryz.func4, Tryz.ntmps4
  go_upto_region 3 with (go_at_call 13; refine (HW.out _).mono ?_; rintro e w1 ⟨rfl, b1⟩)
  obtain ⟨k, hk⟩ : ∃ k, k = min n 60 := ⟨_, rfl⟩
  have HK := Lib.hid hk
  have hcase : (n < 60 ∧ k = n) ∨ (60 < n ∧ k = 60) ∨ (n = 60 ∧ k = 60) := by omega
  clear hk
  go_cut [0] (fun s0 wx => s0 = .slice a k c ∧ wx = w1)
  case first =>
    clear HV HL HK HW HT b1
    rcases hcase with ⟨h1, rfl⟩ | ⟨h1, rfl⟩ | ⟨rfl, rfl⟩
    all_goals (go_wp2_with fail; all_goals (go_meet; exact ⟨by first | rfl | (congr 1; omega), rfl⟩))
  case rest =>
    obtain ⟨rfl, rfl⟩ := hcut
    have hk6 : k ≤ 60 := by have := HK.out; omega
    have HKL := Lib.hid (show L.length = k by rw [HL.out, HK.out])
    have hvw := HV.out.below b1
    have HV1 := Lib.hid hvw
    have HB1 := Lib.hid b1
    clear hcase hn hnc HV HW HL HK hvw b1
    go_upto_region 5 with (go_at_call 26; refine (HT.out _).mono ?_; rintro e w2 ⟨g, rfl, h2, b2, n2⟩)
    have d3 := h2.own.cell 3 _ rfl
    have HS := Lib.hid (steps_any _ _ _ _ w2 h2.cells)
    have HB12 := Lib.hid b2
    have HB2 := Lib.hid (HB1.out.trans (b2.mono HB1.out.size))
    have HN2 := Lib.hid n2
    have H2 := Lib.hid h2
    have hs12 := b2.size
    clear HT b2 n2 h2
    go_upto_region 7 with (go_at_call 27; (with_reducible refine HS.out.mono ?_); rintro e w3 ⟨rfl, rfl⟩)
    clear HS d3
    go_loopw [5] (fun v5 wr => ∃ (i : Nat) (vo : Value), i ≤ k ∧ v5 = .int .i64 (i : Int) ∧ Two wr g vo ((L.take i).map nE) ∧ Below wc.heap.size wc wr ∧ ∀ b, vo.ownBlock = some b → wc.heap.size ≤ b) (fun v5 _ => (k - intOf v5).toNat)
    case atStart => exact ⟨0, .slice none 0 0, by omega, rfl, by simpa using H2.out, HB12.out, fun b h => by simp [Value.ownBlock] at h⟩
    case round =>
      obtain ⟨i, vo, hi, rfl, hr, hbr, hvo⟩ := hrel
      have HR := Lib.hid hr
      have HBR := Lib.hid hbr
      have HVO := Lib.hid hvo
      have hs1 := hbr.size
      by_cases hlt : i < k
      · have hlL : i < L.length := by rw [HKL.out]; exact hlt
        obtain ⟨a', c', ea, hcells⟩ := HV1.out.below hbr
        obtain ⟨rfl, rfl⟩ : a = a' ∧ c = c' := by cases ea; exact ⟨rfl, rfl⟩
        obtain ⟨b, off, rfl, hcell⟩ := hcells i _ (List.getElem?_eq_getElem hlL)
        have HE := Lib.hid (List.getElem?_eq_getElem hlL)
        generalize L[i] = e at *
        have f0 : wr.cell? ⟨b, off + i * 8, none⟩ = some (.int .i64 e.kind) := hcell 0 _ rfl
        have f1 : wr.cell? ⟨b, off + i * 8 + 1, none⟩ = some (.int .i64 e.thr) := hcell 1 _ rfl
        have f2 : wr.cell? ⟨b, off + i * 8 + 2, none⟩ = some (.int .i64 e.idx) := hcell 2 _ rfl
        have f3 : wr.cell? ⟨b, off + i * 8 + 3, none⟩ = some (.int .i64 e.act) := hcell 3 _ rfl
        have f4 : wr.cell? ⟨b, off + i * 8 + 4, none⟩ = some (.int .i64 e.obj) := hcell 4 _ rfl
        have f5 : wr.cell? ⟨b, off + i * 8 + 5, none⟩ = some (.int .i64 e.oth) := hcell 5 _ rfl
        have f6 : wr.cell? ⟨b, off + i * 8 + 6, none⟩ = some (.int .i64 e.code) := hcell 6 _ rfl
        have f7 : wr.cell? ⟨b, off + i * 8 + 7, none⟩ = some (.int .i64 e.val) := hcell 7 _ rfl
        have hix : ∀ V, (Instr.indexAt 45 (.slice (some ⟨b, off, none⟩) k c) (.int .i64 (i : Int))).run Tryz.prog V = .ok (.pointer (some ⟨b, off + i * 8, none⟩)) V := by
          intro V
          go_simp
        clear ea hcells hcell hr hbr hvo hlL
        go_upto_region 10 with (refine wpList_store_row rfl 68 _ _ rfl wr.heap.size (evC e) rfl rfl 68 (evC ev0) (Blk.new wr _ _) hesz.out rfl (evC_one e) ?_; (try simp only [Act.put, List.setIfInBounds_toArray, List.set_cons_zero, List.set_cons_succ]))
        rw [World.setRow_alloc_new]
        have q6 : Blk (wr.alloc (.cells (evC e) 68)) wr.heap.size 68 (evC e) := Blk.new _ _ _
        have b6 : Below wr.heap.size wr (wr.alloc (.cells (evC e) 68)) := by go_grown
        generalize hb6 : wr.heap.size = B6 at *
        generalize hW : wr.alloc (.cells (evC e) 68) = w6 at *
        have HR6 := Lib.hid (GrAt.below HR.out (by rw [hb6]; exact b6))
        have HBR6 := Lib.hid (HBR.out.trans (b6.mono hs1))
        clear hW hb6 f0 f1 f2 f3 f4 f5 f6 f7 hix
        have f0 := q6.cell 0 _ rfl
        have f1 := q6.cell 1 _ rfl
        have f2 := q6.cell 2 _ rfl
        have f3 := q6.cell 3 _ rfl
        have f4 := q6.cell 4 _ rfl
        have f5 := q6.cell 5 _ rfl
        have f6 := q6.cell 6 _ rfl
        have f7 := q6.cell 7 _ rfl
        go_upto_region 12 with fail
        have HGw := Lib.hid (show wc.heap.size ≤ g.G from HN2.out _ (.inl rfl))
        have HVO2 := HVO
        have hs6 := HBR6.out.size
        have HLn := Lib.hid (show ((L.take i).map nE).length ≤ 1000000 by rw [List.length_map, List.length_take]; omega)
        obtain ⟨kd, hkd⟩ : ∃ kd, (IntKind.u64.wrap e.kind).tmod 3 = kd := ⟨_, rfl⟩
        rw [hkd]
        have hkr : kd = 0 ∨ kd = 1 ∨ kd = 2 := by rw [← hkd]; exact kE_range e
        have HKD := Lib.hid (show kE e = kd from hkd)
        clear hkd
        rcases hkr with rfl | rfl | rfl
        · have HC := Lib.hid ((call_any e.thr e.idx e.act e.obj e.oth HR6.out HLn.out).mono fun r w' h => noted h (by unfold nE; rw [if_pos HKD.out]) HE.out)
          go_upto_region 16 with (go_at_call 28; (with_reducible refine HC.out.mono ?_); rintro r w7 ⟨rfl, vo1, h7, k7, n7⟩)
          clear f0 f1 f2 f3 f4 f5 f6 f7 q6 HC HVO2
          have hEl : ((L.take (i + 1)).map nE).length = i + 1 := by rw [List.length_map, List.length_take, HKL.out]; omega
          have HEv := Lib.hid (events_any h7 (by rw [hEl]; omega))
          go_upto_region 17 with (go_at_call 18; (with_reducible refine HEv.out.mono ?_); rintro r w8 ⟨v, rfl, h8, t8, k8⟩)
          obtain ⟨ga, ca, rfl⟩ := row_slice h8 (by rw [hEl]; omega)
          have hgl := row_base h8 (g := ga) rfl
          obtain ⟨_, cur0, hcur⟩ := row_lt h8 (g := ga) rfl
          have hcs : (i + 1) * 8 ≤ cur0.size := by
            have hx := h8.cells (g := ga) rfl ((i + 1) * 8 - 1) _ (List.getElem?_eq_getElem (by rw [evs_len, hEl]; omega))
            rw [addr_add] at hx
            have := cell_lt hcur hx
            omega
          rw [hEl]
          have HGA := Lib.hid (show ∀ b, grB g vo1 b → b ≠ ga from fun b hb => by have := GrAt.lt h7 hb; omega)
          have hs8 := hs6
          have bw7 : Below wc.heap.size wc w7 := HBR6.out.trans (k7.below HBR6.out.size (fun b _ h => h.elim (fun e => e ▸ HGw.out) (fun h => HVO.out b h)))
          have bw8 : Below wc.heap.size wc w8 := bw7.trans (k8.below bw7.size (fun b _ e => e ▸ HGw.out))
          have HVO1 := Lib.hid (show ∀ b, vo1.ownBlock = some b → wc.heap.size ≤ b from fun b hb => (n7 b hb).elim (fun h => HVO.out b h) (fun h => Nat.le_trans HBR6.out.size h))
          have hgw : wc.heap.size ≤ ga := Nat.le_trans bw7.size hgl
          have T8 := Lib.hid t8
          have C8 := Lib.hid hcur
          have S8 := Lib.hid hcs
          have B8 := Lib.hid bw8
          clear h8 t8 hcur hcs bw8 bw7 k8 k7 n7 h7 HEv HR6 HBR6 HGw HVO
          go_upto_region 20 with fail
          go_loopw [8] (fun v8 wr => ∃ (j : Nat) (cur : Array Value), j ≤ i + 1 ∧ v8 = .int .i64 (j : Int) ∧ Blk wr ga 68 cur ∧ (i + 1) * 8 ≤ cur.size ∧ Two wr g vo1 ((L.take (i + 1)).map nE) ∧ Below wc.heap.size wc wr) (fun v8 _ => (i + 1 - intOf v8).toNat)
          case atStart => exact ⟨0, cur0, by omega, rfl, C8.out, S8.out, T8.out, B8.out⟩
          case round =>
            obtain ⟨j, cur, hj, rfl, hcr, hsz, htr, hbr⟩ := hrel
            have HTR := Lib.hid htr
            have HBJ := Lib.hid hbr
            have HCR := Lib.hid hcr
            by_cases hlj : j < i + 1
            · have hgx : cur[j * 8 + 1]? = some (cur[j * 8 + 1]'(by omega)) := Array.getElem?_eq_getElem _
              have g1 := hcr.cell (j * 8 + 1) _ hgx
              have z1 := hcr.free (j * 8 + 1)
              have hlj2 : ¬ ((i : Int) + 1 ≤ (j : Int)) := by omega
              have hix : ∀ V, (Instr.indexAt 45 (.slice (some ⟨ga, 0, none⟩) (i + 1) ca) (.int .i64 (j : Int))).run Tryz.prog V = .ok (.pointer (some ⟨ga, j * 8, none⟩)) V := by
                intro V
                go_simp
              generalize cur[j * 8 + 1]'(by omega) = xx at *
              have kS : Keep (fun b => b = ga) wr (wr.setCell ⟨ga, j * 8 + 1, none⟩ (.int .i64 (-7))) := (Keep.refl (fun b => b = ga) wr).set (p := ⟨ga, j * 8 + 1, none⟩) (fun _ => rfl) _
              have HEND := Lib.hid (And.intro (hcr.set (j * 8 + 1) (.int .i64 (-7))) (And.intro (show (i + 1) * 8 ≤ (cur.setIfInBounds (j * 8 + 1) (.int .i64 (-7))).size by rw [Array.size_setIfInBounds]; exact hsz) (And.intro (show Two (wr.setCell ⟨ga, j * 8 + 1, none⟩ (.int .i64 (-7))) g vo1 ((L.take (i + 1)).map nE) from GrAt.keep htr kS HGA.out) (hbr.trans (kS.below hbr.size (fun b _ e => e ▸ hgw))))))
              clear hcr hsz htr hbr hgx kS
              go_wp2_with fail
              go_roundw
              case rel => exact ⟨j + 1, _, hlj, rfl, HEND.out.1, HEND.out.2.1, HEND.out.2.2.1, HEND.out.2.2.2⟩
              case measure => simp [intOf]; omega
            · obtain rfl : j = i + 1 := by omega
              clear hcr hsz htr hbr
              go_wp2_with fail
              go_roundw
              case rel => exact ⟨i + 1, vo1, hlt, rfl, HTR.out, HBJ.out, HVO1.out⟩
              case measure => simp [intOf]; omega
        · have HC := Lib.hid ((act_any e.thr e.act e.obj e.oth HR6.out HLn.out).mono fun r w' h => noted h (by unfold nE; rw [if_neg (by rw [HKD.out]; decide), if_pos HKD.out]) HE.out)
          go_upto_region 16 with (go_at_call 29; (with_reducible refine HC.out.mono ?_); rintro r w7 ⟨rfl, vo1, h7, k7, n7⟩)
          clear f0 f1 f2 f3 f4 f5 f6 f7 q6 HC HVO2
          have hEl : ((L.take (i + 1)).map nE).length = i + 1 := by rw [List.length_map, List.length_take, HKL.out]; omega
          have HEv := Lib.hid (events_any h7 (by rw [hEl]; omega))
          go_upto_region 17 with (go_at_call 18; (with_reducible refine HEv.out.mono ?_); rintro r w8 ⟨v, rfl, h8, t8, k8⟩)
          obtain ⟨ga, ca, rfl⟩ := row_slice h8 (by rw [hEl]; omega)
          have hgl := row_base h8 (g := ga) rfl
          obtain ⟨_, cur0, hcur⟩ := row_lt h8 (g := ga) rfl
          have hcs : (i + 1) * 8 ≤ cur0.size := by
            have hx := h8.cells (g := ga) rfl ((i + 1) * 8 - 1) _ (List.getElem?_eq_getElem (by rw [evs_len, hEl]; omega))
            rw [addr_add] at hx
            have := cell_lt hcur hx
            omega
          rw [hEl]
          have HGA := Lib.hid (show ∀ b, grB g vo1 b → b ≠ ga from fun b hb => by have := GrAt.lt h7 hb; omega)
          have hs8 := hs6
          have bw7 : Below wc.heap.size wc w7 := HBR6.out.trans (k7.below HBR6.out.size (fun b _ h => h.elim (fun e => e ▸ HGw.out) (fun h => HVO.out b h)))
          have bw8 : Below wc.heap.size wc w8 := bw7.trans (k8.below bw7.size (fun b _ e => e ▸ HGw.out))
          have HVO1 := Lib.hid (show ∀ b, vo1.ownBlock = some b → wc.heap.size ≤ b from fun b hb => (n7 b hb).elim (fun h => HVO.out b h) (fun h => Nat.le_trans HBR6.out.size h))
          have hgw : wc.heap.size ≤ ga := Nat.le_trans bw7.size hgl
          have T8 := Lib.hid t8
          have C8 := Lib.hid hcur
          have S8 := Lib.hid hcs
          have B8 := Lib.hid bw8
          clear h8 t8 hcur hcs bw8 bw7 k8 k7 n7 h7 HEv HR6 HBR6 HGw HVO
          go_upto_region 20 with fail
          go_loopw [8] (fun v8 wr => ∃ (j : Nat) (cur : Array Value), j ≤ i + 1 ∧ v8 = .int .i64 (j : Int) ∧ Blk wr ga 68 cur ∧ (i + 1) * 8 ≤ cur.size ∧ Two wr g vo1 ((L.take (i + 1)).map nE) ∧ Below wc.heap.size wc wr) (fun v8 _ => (i + 1 - intOf v8).toNat)
          case atStart => exact ⟨0, cur0, by omega, rfl, C8.out, S8.out, T8.out, B8.out⟩
          case round =>
            obtain ⟨j, cur, hj, rfl, hcr, hsz, htr, hbr⟩ := hrel
            have HTR := Lib.hid htr
            have HBJ := Lib.hid hbr
            have HCR := Lib.hid hcr
            by_cases hlj : j < i + 1
            · have hgx : cur[j * 8 + 1]? = some (cur[j * 8 + 1]'(by omega)) := Array.getElem?_eq_getElem _
              have g1 := hcr.cell (j * 8 + 1) _ hgx
              have z1 := hcr.free (j * 8 + 1)
              have hlj2 : ¬ ((i : Int) + 1 ≤ (j : Int)) := by omega
              have hix : ∀ V, (Instr.indexAt 45 (.slice (some ⟨ga, 0, none⟩) (i + 1) ca) (.int .i64 (j : Int))).run Tryz.prog V = .ok (.pointer (some ⟨ga, j * 8, none⟩)) V := by
                intro V
                go_simp
              generalize cur[j * 8 + 1]'(by omega) = xx at *
              have kS : Keep (fun b => b = ga) wr (wr.setCell ⟨ga, j * 8 + 1, none⟩ (.int .i64 (-7))) := (Keep.refl (fun b => b = ga) wr).set (p := ⟨ga, j * 8 + 1, none⟩) (fun _ => rfl) _
              have HEND := Lib.hid (And.intro (hcr.set (j * 8 + 1) (.int .i64 (-7))) (And.intro (show (i + 1) * 8 ≤ (cur.setIfInBounds (j * 8 + 1) (.int .i64 (-7))).size by rw [Array.size_setIfInBounds]; exact hsz) (And.intro (show Two (wr.setCell ⟨ga, j * 8 + 1, none⟩ (.int .i64 (-7))) g vo1 ((L.take (i + 1)).map nE) from GrAt.keep htr kS HGA.out) (hbr.trans (kS.below hbr.size (fun b _ e => e ▸ hgw))))))
              clear hcr hsz htr hbr hgx kS
              go_wp2_with fail
              go_roundw
              case rel => exact ⟨j + 1, _, hlj, rfl, HEND.out.1, HEND.out.2.1, HEND.out.2.2.1, HEND.out.2.2.2⟩
              case measure => simp [intOf]; omega
            · obtain rfl : j = i + 1 := by omega
              clear hcr hsz htr hbr
              go_wp2_with fail
              go_roundw
              case rel => exact ⟨i + 1, vo1, hlt, rfl, HTR.out, HBJ.out, HVO1.out⟩
              case measure => simp [intOf]; omega
        · have HC := Lib.hid ((return_any e.thr e.idx e.code e.val HR6.out HLn.out).mono fun r w' h => noted h (by unfold nE; rw [if_neg (by rw [HKD.out]; decide), if_neg (by rw [HKD.out]; decide)]) HE.out)
          go_upto_region 16 with (go_at_call 30; (with_reducible refine HC.out.mono ?_); rintro r w7 ⟨rfl, vo1, h7, k7, n7⟩)
          clear f0 f1 f2 f3 f4 f5 f6 f7 q6 HC HVO2
          have hEl : ((L.take (i + 1)).map nE).length = i + 1 := by rw [List.length_map, List.length_take, HKL.out]; omega
          have HEv := Lib.hid (events_any h7 (by rw [hEl]; omega))
          go_upto_region 17 with (go_at_call 18; (with_reducible refine HEv.out.mono ?_); rintro r w8 ⟨v, rfl, h8, t8, k8⟩)
          obtain ⟨ga, ca, rfl⟩ := row_slice h8 (by rw [hEl]; omega)
          have hgl := row_base h8 (g := ga) rfl
          obtain ⟨_, cur0, hcur⟩ := row_lt h8 (g := ga) rfl
          have hcs : (i + 1) * 8 ≤ cur0.size := by
            have hx := h8.cells (g := ga) rfl ((i + 1) * 8 - 1) _ (List.getElem?_eq_getElem (by rw [evs_len, hEl]; omega))
            rw [addr_add] at hx
            have := cell_lt hcur hx
            omega
          rw [hEl]
          have HGA := Lib.hid (show ∀ b, grB g vo1 b → b ≠ ga from fun b hb => by have := GrAt.lt h7 hb; omega)
          have hs8 := hs6
          have bw7 : Below wc.heap.size wc w7 := HBR6.out.trans (k7.below HBR6.out.size (fun b _ h => h.elim (fun e => e ▸ HGw.out) (fun h => HVO.out b h)))
          have bw8 : Below wc.heap.size wc w8 := bw7.trans (k8.below bw7.size (fun b _ e => e ▸ HGw.out))
          have HVO1 := Lib.hid (show ∀ b, vo1.ownBlock = some b → wc.heap.size ≤ b from fun b hb => (n7 b hb).elim (fun h => HVO.out b h) (fun h => Nat.le_trans HBR6.out.size h))
          have hgw : wc.heap.size ≤ ga := Nat.le_trans bw7.size hgl
          have T8 := Lib.hid t8
          have C8 := Lib.hid hcur
          have S8 := Lib.hid hcs
          have B8 := Lib.hid bw8
          clear h8 t8 hcur hcs bw8 bw7 k8 k7 n7 h7 HEv HR6 HBR6 HGw HVO
          go_upto_region 20 with fail
          go_loopw [8] (fun v8 wr => ∃ (j : Nat) (cur : Array Value), j ≤ i + 1 ∧ v8 = .int .i64 (j : Int) ∧ Blk wr ga 68 cur ∧ (i + 1) * 8 ≤ cur.size ∧ Two wr g vo1 ((L.take (i + 1)).map nE) ∧ Below wc.heap.size wc wr) (fun v8 _ => (i + 1 - intOf v8).toNat)
          case atStart => exact ⟨0, cur0, by omega, rfl, C8.out, S8.out, T8.out, B8.out⟩
          case round =>
            obtain ⟨j, cur, hj, rfl, hcr, hsz, htr, hbr⟩ := hrel
            have HTR := Lib.hid htr
            have HBJ := Lib.hid hbr
            have HCR := Lib.hid hcr
            by_cases hlj : j < i + 1
            · have hgx : cur[j * 8 + 1]? = some (cur[j * 8 + 1]'(by omega)) := Array.getElem?_eq_getElem _
              have g1 := hcr.cell (j * 8 + 1) _ hgx
              have z1 := hcr.free (j * 8 + 1)
              have hlj2 : ¬ ((i : Int) + 1 ≤ (j : Int)) := by omega
              have hix : ∀ V, (Instr.indexAt 45 (.slice (some ⟨ga, 0, none⟩) (i + 1) ca) (.int .i64 (j : Int))).run Tryz.prog V = .ok (.pointer (some ⟨ga, j * 8, none⟩)) V := by
                intro V
                go_simp
              generalize cur[j * 8 + 1]'(by omega) = xx at *
              have kS : Keep (fun b => b = ga) wr (wr.setCell ⟨ga, j * 8 + 1, none⟩ (.int .i64 (-7))) := (Keep.refl (fun b => b = ga) wr).set (p := ⟨ga, j * 8 + 1, none⟩) (fun _ => rfl) _
              have HEND := Lib.hid (And.intro (hcr.set (j * 8 + 1) (.int .i64 (-7))) (And.intro (show (i + 1) * 8 ≤ (cur.setIfInBounds (j * 8 + 1) (.int .i64 (-7))).size by rw [Array.size_setIfInBounds]; exact hsz) (And.intro (show Two (wr.setCell ⟨ga, j * 8 + 1, none⟩ (.int .i64 (-7))) g vo1 ((L.take (i + 1)).map nE) from GrAt.keep htr kS HGA.out) (hbr.trans (kS.below hbr.size (fun b _ e => e ▸ hgw))))))
              clear hcr hsz htr hbr hgx kS
              go_wp2_with fail
              go_roundw
              case rel => exact ⟨j + 1, _, hlj, rfl, HEND.out.1, HEND.out.2.1, HEND.out.2.2.1, HEND.out.2.2.2⟩
              case measure => simp [intOf]; omega
            · obtain rfl : j = i + 1 := by omega
              clear hcr hsz htr hbr
              go_wp2_with fail
              go_roundw
              case rel => exact ⟨i + 1, vo1, hlt, rfl, HTR.out, HBJ.out, HVO1.out⟩
              case measure => simp [intOf]; omega
      · obtain rfl : i = k := by omega
        have hEl : ((L.take i).map nE).length = i := by rw [List.length_map, List.length_take, HKL.out]; omega
        have HEv := Lib.hid (events_any hr (by rw [hEl]; omega))
        clear hr hbr hvo
        go_upto_region 25 with (go_at_call 18; (with_reducible refine HEv.out.mono ?_); rintro r w8 ⟨v, rfl, h8, t8, k8⟩)
        obtain ⟨ga, ca, rfl⟩ : ∃ ga ca, v = .slice ga i ca := by
          rcases h8.2 with ⟨hv, h0⟩ | ⟨g', c', cur, hv, _⟩
          · exact ⟨none, 0, by rw [← hEl, h0]; exact hv⟩
          · exact ⟨_, _, by rw [← hEl]; exact hv⟩
        have HGw := Lib.hid (show wc.heap.size ≤ g.G from HN2.out _ (.inl rfl))
        have bw8 : Below wc.heap.size wc w8 := HBR.out.trans (k8.below HBR.out.size (fun b _ e => e ▸ HGw.out))
        have B8 := Lib.hid bw8
        have V8 := Lib.hid (show EvSl w8 (.slice a i c) i L from by
          obtain ⟨a', c', ea, hc⟩ := HV1.out
          cases ea
          exact ⟨_, _, rfl, fun q e he => by
            obtain ⟨b, off, e1, e2⟩ := hc q e he
            exact ⟨b, off, e1, fun j u hu => by
              have hx := e2 j u hu
              exact cell_of_below hx bw8⟩⟩)
        have R8 := Lib.hid (show ∀ (j : Nat) (e : Ev), L[j]? = some e → ∃ b, ga = some ⟨b, 0, none⟩ ∧ ∀ (q : Nat) (u : Value), (evL (nE e))[q]? = some u → w8.cell? ⟨b, j * 8 + q, none⟩ = some u from fun j e he => by
          have hjl : j < i := by have := (List.getElem?_eq_some_iff.1 he).1; have := HKL.out; omega
          rcases h8.2 with ⟨hv, h0⟩ | ⟨g', c', cur, hv, _⟩
          · rw [hEl] at h0; omega
          · have hg' : ga = some ⟨g', 0, none⟩ := by injection hv
            subst hg'
            refine ⟨g', rfl, fun q u hu => ?_⟩
            have hx := h8.cells (g := g') rfl (j * 8 + q) u (flat8 _ j (nE e) (by rw [List.getElem?_map, List.getElem?_take_of_lt hjl, he]; rfl) q u hu)
            rwa [addr_add] at hx)
        have T8 := Lib.hid t8
        clear h8 t8 bw8 k8 HEv HR HBR HVO HV1 hEl hs1
        go_loopw [10] (fun v10 wr => ∃ j : Nat, j ≤ i ∧ v10 = .int .i64 (j : Int) ∧ Below w8.heap.size w8 wr) (fun v10 _ => (i - intOf v10).toNat)
        case atStart => exact ⟨0, by omega, rfl, Below.refl _ _⟩
        case round =>
          obtain ⟨j, hj, rfl, hbr⟩ := hrel
          have HBJ := Lib.hid hbr
          have hsj := hbr.size
          by_cases hlj : j < i
          · have hlL : j < L.length := by rw [HKL.out]; exact hlj
            obtain ⟨a', c', ea, hcells⟩ := V8.out.below hbr
            obtain ⟨rfl, rfl⟩ : a = a' ∧ c = c' := by cases ea; exact ⟨rfl, rfl⟩
            obtain ⟨b, off, rfl, hcell⟩ := hcells j _ (List.getElem?_eq_getElem hlL)
            obtain ⟨bg, rfl, hgc⟩ := R8.out j _ (List.getElem?_eq_getElem hlL)
            generalize L[j] = e at *
            have f0 : wr.cell? ⟨b, off + j * 8, none⟩ = some (.int .i64 e.kind) := hcell 0 _ rfl
            have f1 : wr.cell? ⟨b, off + j * 8 + 1, none⟩ = some (.int .i64 e.thr) := hcell 1 _ rfl
            have f2 : wr.cell? ⟨b, off + j * 8 + 2, none⟩ = some (.int .i64 e.idx) := hcell 2 _ rfl
            have f3 : wr.cell? ⟨b, off + j * 8 + 3, none⟩ = some (.int .i64 e.act) := hcell 3 _ rfl
            have f4 : wr.cell? ⟨b, off + j * 8 + 4, none⟩ = some (.int .i64 e.obj) := hcell 4 _ rfl
            have f5 : wr.cell? ⟨b, off + j * 8 + 5, none⟩ = some (.int .i64 e.oth) := hcell 5 _ rfl
            have f6 : wr.cell? ⟨b, off + j * 8 + 6, none⟩ = some (.int .i64 e.code) := hcell 6 _ rfl
            have f7 : wr.cell? ⟨b, off + j * 8 + 7, none⟩ = some (.int .i64 e.val) := hcell 7 _ rfl
            have GC := Lib.hid (show ∀ V, Below w8.heap.size w8 V → ∀ (q : Nat) (u : Value), (evL (nE e))[q]? = some u → V.cell? ⟨bg, j * 8 + q, none⟩ = some u from fun V hV q u hu => cell_below (hgc q u hu) hV)
            have hix : ∀ V, (Instr.indexAt 45 (.slice (some ⟨b, off, none⟩) i c) (.int .i64 (j : Int))).run Tryz.prog V = .ok (.pointer (some ⟨b, off + j * 8, none⟩)) V := by
              intro V
              go_simp
            have hig : ∀ V, (Instr.indexAt 45 (.slice (some ⟨bg, 0, none⟩) i ca) (.int .i64 (j : Int))).run Tryz.prog V = .ok (.pointer (some ⟨bg, j * 8, none⟩)) V := by
              intro V
              go_simp
            clear ea hcells hcell hgc hlL hbr
            go_upto_region 28 with (refine wpList_store_row rfl 68 _ _ rfl wr.heap.size (evC e) rfl rfl 68 (evC ev0) (Blk.new wr _ _) hesz.out rfl (evC_one e) ?_; (try simp only [Act.put, List.setIfInBounds_toArray, List.set_cons_zero, List.set_cons_succ]))
            rw [World.setRow_alloc_new]
            have q6 : Blk (wr.alloc (.cells (evC e) 68)) wr.heap.size 68 (evC e) := Blk.new _ _ _
            have b6 : Below wr.heap.size wr (wr.alloc (.cells (evC e) 68)) := by go_grown
            have BJ6 := Lib.hid (HBJ.out.trans (b6.mono hsj))
            generalize hb6 : wr.heap.size = B6 at *
            generalize hW : wr.alloc (.cells (evC e) 68) = w6 at *
            clear hW hb6 f0 f1 f2 f3 f4 f5 f6 f7 hix b6
            have f0 := q6.cell 0 _ rfl
            have f1 := q6.cell 1 _ rfl
            have f2 := q6.cell 2 _ rfl
            have f3 := q6.cell 3 _ rfl
            have f4 := q6.cell 4 _ rfl
            have f5 := q6.cell 5 _ rfl
            have f6 := q6.cell 6 _ rfl
            have f7 := q6.cell 7 _ rfl
            have hkr := kE_range e
            rcases hkr with hkd | hkd | hkd
            · have HKD := Lib.hid hkd
              unfold kE at hkd
              have hne : nE e = ⟨0, e.thr, e.idx, e.act, e.obj, e.oth, 0, 0⟩ := by unfold nE; rw [if_pos HKD.out]
              have GC1 := GC
              rw [hne] at GC1
              have hq := ev_ne ⟨0, e.thr, e.idx, e.act, e.obj, e.oth, 0, 0⟩
              go_upto_region 29 with fail
              have q7 : Blk (w6.alloc (.cells (evC ⟨0, e.thr, 0, 0, 0, 0, 0, 0⟩) 68)) w6.heap.size 68 (evC ⟨0, e.thr, 0, 0, 0, 0, 0, 0⟩) := Blk.new _ _ _
              have p7 := q6.alloc (.cells (evC ⟨0, e.thr, 0, 0, 0, 0, 0, 0⟩) 68)
              have b7 : Below w6.heap.size w6 (w6.alloc (.cells (evC ⟨0, e.thr, 0, 0, 0, 0, 0, 0⟩) 68)) := by go_grown
              have BJ7 := BJ6.out.trans (b7.mono BJ6.out.size)
              have hs7 := BJ6.out.size
              clear f0 f1 f2 f3 f4 f5 f6 f7 q6 b7 hkd HKD GC BJ6
              generalize hb7 : w6.heap.size = B7 at *
              generalize hW : w6.alloc (.cells (evC ⟨0, e.thr, 0, 0, 0, 0, 0, 0⟩) 68) = w7 at *
              clear hW hb7
              have f2 := p7.cell 2 _ rfl
              have f3 := p7.cell 3 _ rfl
              have f4 := p7.cell 4 _ rfl
              have f5 := p7.cell 5 _ rfl
              have f6 := p7.cell 6 _ rfl
              have f7 := p7.cell 7 _ rfl
              have g0 := q7.cell 0 _ rfl
              have g2 := q7.cell 2 _ rfl
              have g3 := q7.cell 3 _ rfl
              have g4 := q7.cell 4 _ rfl
              have g5 := q7.cell 5 _ rfl
              have g6 := q7.cell 6 _ rfl
              have g7 := q7.cell 7 _ rfl
              have z2 := q7.free 2
              have z3 := q7.free 3
              have z4 := q7.free 4
              have z5 := q7.free 5
              have z6 := q7.free 6
              have z7 := q7.free 7
              have q8 := (((q7.set 2 (.int .i64 e.idx)).set 3 (.int .i64 e.act)).set 4 (.int .i64 e.obj)).set 5 (.int .i64 e.oth)
              have k8 := ((((Keep.refl (fun b => b = B7) w7).set (p := ⟨B7, 2, none⟩) (fun _ => rfl) (.int .i64 e.idx)).set (p := ⟨B7, 3, none⟩) (fun _ => rfl) (.int .i64 e.act)).set (p := ⟨B7, 4, none⟩) (fun _ => rfl) (.int .i64 e.obj)).set (p := ⟨B7, 5, none⟩) (fun _ => rfl) (.int .i64 e.oth)
              go_upto_region 32 with fail
              go_region
              go_upto_region 35 with fail
              simp only [List.setIfInBounds_toArray, List.set_cons_zero, List.set_cons_succ] at q8
              have b8 := BJ7.trans (k8.below BJ7.size (fun b _ e => e ▸ hs7))
              have bd := bdrewP ((((w7.setCell ⟨B7, 2, none⟩ (.int .i64 e.idx)).setCell ⟨B7, 3, none⟩ (.int .i64 e.act)).setCell ⟨B7, 4, none⟩ (.int .i64 e.obj)).setCell ⟨B7, 5, none⟩ (.int .i64 e.oth))
              have q9 := q8.below bd q8.lt
              have b9 := b8.trans (bd.mono b8.size)
              clear f2 f3 f4 f5 f6 f7 g0 g2 g3 g4 g5 g6 g7 z2 z3 z4 z5 z6 z7 q8 k8 b8 bd BJ7 p7 q7
              generalize ((((w7.setCell ⟨B7, 2, none⟩ (.int .i64 e.idx)).setCell ⟨B7, 3, none⟩ (.int .i64 e.act)).setCell ⟨B7, 4, none⟩ (.int .i64 e.obj)).setCell ⟨B7, 5, none⟩ (.int .i64 e.oth)).drew = w9 at *
              have bdd := bdrewP w9
              have SK := Lib.hid (show ∀ V, Below w9.heap.size w9 V → V.cell? ⟨B7, 0, none⟩ = some (.int .i64 0) ∧ V.cell? ⟨B7, 1, none⟩ = some (.int .i64 e.thr) ∧ V.cell? ⟨B7, 2, none⟩ = some (.int .i64 e.idx) ∧ V.cell? ⟨B7, 3, none⟩ = some (.int .i64 e.act) ∧ V.cell? ⟨B7, 4, none⟩ = some (.int .i64 e.obj) ∧ V.cell? ⟨B7, 5, none⟩ = some (.int .i64 e.oth) ∧ V.cell? ⟨B7, 6, none⟩ = some (.int .i64 0) ∧ V.cell? ⟨B7, 7, none⟩ = some (.int .i64 0) ∧ V.cell? ⟨bg, j * 8, none⟩ = some (.int .i64 0) ∧ V.cell? ⟨bg, j * 8 + 1, none⟩ = some (.int .i64 e.thr) ∧ V.cell? ⟨bg, j * 8 + 2, none⟩ = some (.int .i64 e.idx) ∧ V.cell? ⟨bg, j * 8 + 3, none⟩ = some (.int .i64 e.act) ∧ V.cell? ⟨bg, j * 8 + 4, none⟩ = some (.int .i64 e.obj) ∧ V.cell? ⟨bg, j * 8 + 5, none⟩ = some (.int .i64 e.oth) ∧ V.cell? ⟨bg, j * 8 + 6, none⟩ = some (.int .i64 0) ∧ V.cell? ⟨bg, j * 8 + 7, none⟩ = some (.int .i64 0) from fun V hV => by
                have q9 := q9.below hV q9.lt
                have b9 := b9.trans (hV.mono b9.size)
                exact ⟨q9.cell 0 _ rfl, q9.cell 1 _ rfl, q9.cell 2 _ rfl, q9.cell 3 _ rfl, q9.cell 4 _ rfl, q9.cell 5 _ rfl, q9.cell 6 _ rfl, q9.cell 7 _ rfl, GC1.out _ b9 0 _ rfl, GC1.out _ b9 1 _ rfl, GC1.out _ b9 2 _ rfl, GC1.out _ b9 3 _ rfl, GC1.out _ b9 4 _ rfl, GC1.out _ b9 5 _ rfl, GC1.out _ b9 6 _ rfl, GC1.out _ b9 7 _ rfl⟩)
              clear q9
              go_region_held3 (fun V => V.cell? ⟨B7, 0, none⟩ = some (.int .i64 0) ∧ V.cell? ⟨B7, 1, none⟩ = some (.int .i64 e.thr) ∧ V.cell? ⟨B7, 2, none⟩ = some (.int .i64 e.idx) ∧ V.cell? ⟨B7, 3, none⟩ = some (.int .i64 e.act) ∧ V.cell? ⟨B7, 4, none⟩ = some (.int .i64 e.obj) ∧ V.cell? ⟨B7, 5, none⟩ = some (.int .i64 e.oth) ∧ V.cell? ⟨B7, 6, none⟩ = some (.int .i64 0) ∧ V.cell? ⟨B7, 7, none⟩ = some (.int .i64 0) ∧ V.cell? ⟨bg, j * 8, none⟩ = some (.int .i64 0) ∧ V.cell? ⟨bg, j * 8 + 1, none⟩ = some (.int .i64 e.thr) ∧ V.cell? ⟨bg, j * 8 + 2, none⟩ = some (.int .i64 e.idx) ∧ V.cell? ⟨bg, j * 8 + 3, none⟩ = some (.int .i64 e.act) ∧ V.cell? ⟨bg, j * 8 + 4, none⟩ = some (.int .i64 e.obj) ∧ V.cell? ⟨bg, j * 8 + 5, none⟩ = some (.int .i64 e.oth) ∧ V.cell? ⟨bg, j * 8 + 6, none⟩ = some (.int .i64 0) ∧ V.cell? ⟨bg, j * 8 + 7, none⟩ = some (.int .i64 0)) (exact SK.out _ bdd) (fail)
              go_wp2_with fail
              go_roundw
              case rel => exact ⟨j + 1, hlj, rfl, b9.trans (bdd.mono b9.size)⟩
              case measure => simp [intOf]; omega
            · have HKD := Lib.hid hkd
              unfold kE at hkd
              have hne : nE e = ⟨1, e.thr, 0, e.act, e.obj, e.oth, 0, 0⟩ := by unfold nE; rw [if_neg (by rw [HKD.out]; decide), if_pos HKD.out]
              have GC1 := GC
              rw [hne] at GC1
              have hq := ev_ne ⟨1, e.thr, 0, e.act, e.obj, e.oth, 0, 0⟩
              go_upto_region 29 with fail
              have q7 : Blk (w6.alloc (.cells (evC ⟨1, e.thr, 0, 0, 0, 0, 0, 0⟩) 68)) w6.heap.size 68 (evC ⟨1, e.thr, 0, 0, 0, 0, 0, 0⟩) := Blk.new _ _ _
              have p7 := q6.alloc (.cells (evC ⟨1, e.thr, 0, 0, 0, 0, 0, 0⟩) 68)
              have b7 : Below w6.heap.size w6 (w6.alloc (.cells (evC ⟨1, e.thr, 0, 0, 0, 0, 0, 0⟩) 68)) := by go_grown
              have BJ7 := BJ6.out.trans (b7.mono BJ6.out.size)
              have hs7 := BJ6.out.size
              clear f0 f1 f2 f3 f4 f5 f6 f7 q6 b7 hkd HKD GC BJ6
              generalize hb7 : w6.heap.size = B7 at *
              generalize hW : w6.alloc (.cells (evC ⟨1, e.thr, 0, 0, 0, 0, 0, 0⟩) 68) = w7 at *
              clear hW hb7
              have f2 := p7.cell 2 _ rfl
              have f3 := p7.cell 3 _ rfl
              have f4 := p7.cell 4 _ rfl
              have f5 := p7.cell 5 _ rfl
              have f6 := p7.cell 6 _ rfl
              have f7 := p7.cell 7 _ rfl
              have g0 := q7.cell 0 _ rfl
              have g2 := q7.cell 2 _ rfl
              have g3 := q7.cell 3 _ rfl
              have g4 := q7.cell 4 _ rfl
              have g5 := q7.cell 5 _ rfl
              have g6 := q7.cell 6 _ rfl
              have g7 := q7.cell 7 _ rfl
              have z2 := q7.free 2
              have z3 := q7.free 3
              have z4 := q7.free 4
              have z5 := q7.free 5
              have z6 := q7.free 6
              have z7 := q7.free 7
              have q8 := ((q7.set 3 (.int .i64 e.act)).set 4 (.int .i64 e.obj)).set 5 (.int .i64 e.oth)
              have k8 := (((Keep.refl (fun b => b = B7) w7).set (p := ⟨B7, 3, none⟩) (fun _ => rfl) (.int .i64 e.act)).set (p := ⟨B7, 4, none⟩) (fun _ => rfl) (.int .i64 e.obj)).set (p := ⟨B7, 5, none⟩) (fun _ => rfl) (.int .i64 e.oth)
              go_upto_region 34 with fail
              go_region
              go_upto_region 35 with fail
              simp only [List.setIfInBounds_toArray, List.set_cons_zero, List.set_cons_succ] at q8
              have b8 := BJ7.trans (k8.below BJ7.size (fun b _ e => e ▸ hs7))
              have bd := bdrewP (((w7.setCell ⟨B7, 3, none⟩ (.int .i64 e.act)).setCell ⟨B7, 4, none⟩ (.int .i64 e.obj)).setCell ⟨B7, 5, none⟩ (.int .i64 e.oth))
              have q9 := q8.below bd q8.lt
              have b9 := b8.trans (bd.mono b8.size)
              clear f2 f3 f4 f5 f6 f7 g0 g2 g3 g4 g5 g6 g7 z2 z3 z4 z5 z6 z7 q8 k8 b8 bd BJ7 p7 q7
              generalize (((w7.setCell ⟨B7, 3, none⟩ (.int .i64 e.act)).setCell ⟨B7, 4, none⟩ (.int .i64 e.obj)).setCell ⟨B7, 5, none⟩ (.int .i64 e.oth)).drew = w9 at *
              have bdd := bdrewP w9
              have SK := Lib.hid (show ∀ V, Below w9.heap.size w9 V → V.cell? ⟨B7, 0, none⟩ = some (.int .i64 1) ∧ V.cell? ⟨B7, 1, none⟩ = some (.int .i64 e.thr) ∧ V.cell? ⟨B7, 2, none⟩ = some (.int .i64 0) ∧ V.cell? ⟨B7, 3, none⟩ = some (.int .i64 e.act) ∧ V.cell? ⟨B7, 4, none⟩ = some (.int .i64 e.obj) ∧ V.cell? ⟨B7, 5, none⟩ = some (.int .i64 e.oth) ∧ V.cell? ⟨B7, 6, none⟩ = some (.int .i64 0) ∧ V.cell? ⟨B7, 7, none⟩ = some (.int .i64 0) ∧ V.cell? ⟨bg, j * 8, none⟩ = some (.int .i64 1) ∧ V.cell? ⟨bg, j * 8 + 1, none⟩ = some (.int .i64 e.thr) ∧ V.cell? ⟨bg, j * 8 + 2, none⟩ = some (.int .i64 0) ∧ V.cell? ⟨bg, j * 8 + 3, none⟩ = some (.int .i64 e.act) ∧ V.cell? ⟨bg, j * 8 + 4, none⟩ = some (.int .i64 e.obj) ∧ V.cell? ⟨bg, j * 8 + 5, none⟩ = some (.int .i64 e.oth) ∧ V.cell? ⟨bg, j * 8 + 6, none⟩ = some (.int .i64 0) ∧ V.cell? ⟨bg, j * 8 + 7, none⟩ = some (.int .i64 0) from fun V hV => by
                have q9 := q9.below hV q9.lt
                have b9 := b9.trans (hV.mono b9.size)
                exact ⟨q9.cell 0 _ rfl, q9.cell 1 _ rfl, q9.cell 2 _ rfl, q9.cell 3 _ rfl, q9.cell 4 _ rfl, q9.cell 5 _ rfl, q9.cell 6 _ rfl, q9.cell 7 _ rfl, GC1.out _ b9 0 _ rfl, GC1.out _ b9 1 _ rfl, GC1.out _ b9 2 _ rfl, GC1.out _ b9 3 _ rfl, GC1.out _ b9 4 _ rfl, GC1.out _ b9 5 _ rfl, GC1.out _ b9 6 _ rfl, GC1.out _ b9 7 _ rfl⟩)
              clear q9
              go_region_held3 (fun V => V.cell? ⟨B7, 0, none⟩ = some (.int .i64 1) ∧ V.cell? ⟨B7, 1, none⟩ = some (.int .i64 e.thr) ∧ V.cell? ⟨B7, 2, none⟩ = some (.int .i64 0) ∧ V.cell? ⟨B7, 3, none⟩ = some (.int .i64 e.act) ∧ V.cell? ⟨B7, 4, none⟩ = some (.int .i64 e.obj) ∧ V.cell? ⟨B7, 5, none⟩ = some (.int .i64 e.oth) ∧ V.cell? ⟨B7, 6, none⟩ = some (.int .i64 0) ∧ V.cell? ⟨B7, 7, none⟩ = some (.int .i64 0) ∧ V.cell? ⟨bg, j * 8, none⟩ = some (.int .i64 1) ∧ V.cell? ⟨bg, j * 8 + 1, none⟩ = some (.int .i64 e.thr) ∧ V.cell? ⟨bg, j * 8 + 2, none⟩ = some (.int .i64 0) ∧ V.cell? ⟨bg, j * 8 + 3, none⟩ = some (.int .i64 e.act) ∧ V.cell? ⟨bg, j * 8 + 4, none⟩ = some (.int .i64 e.obj) ∧ V.cell? ⟨bg, j * 8 + 5, none⟩ = some (.int .i64 e.oth) ∧ V.cell? ⟨bg, j * 8 + 6, none⟩ = some (.int .i64 0) ∧ V.cell? ⟨bg, j * 8 + 7, none⟩ = some (.int .i64 0)) (exact SK.out _ bdd) (fail)
              go_wp2_with fail
              go_roundw
              case rel => exact ⟨j + 1, hlj, rfl, b9.trans (bdd.mono b9.size)⟩
              case measure => simp [intOf]; omega
            · have HKD := Lib.hid hkd
              unfold kE at hkd
              have hne : nE e = ⟨2, e.thr, e.idx, 0, 0, 0, e.code, e.val⟩ := by unfold nE; rw [if_neg (by rw [HKD.out]; decide), if_neg (by rw [HKD.out]; decide)]
              have GC1 := GC
              rw [hne] at GC1
              have hq := ev_ne ⟨2, e.thr, e.idx, 0, 0, 0, e.code, e.val⟩
              go_upto_region 29 with fail
              have q7 : Blk (w6.alloc (.cells (evC ⟨2, e.thr, 0, 0, 0, 0, 0, 0⟩) 68)) w6.heap.size 68 (evC ⟨2, e.thr, 0, 0, 0, 0, 0, 0⟩) := Blk.new _ _ _
              have p7 := q6.alloc (.cells (evC ⟨2, e.thr, 0, 0, 0, 0, 0, 0⟩) 68)
              have b7 : Below w6.heap.size w6 (w6.alloc (.cells (evC ⟨2, e.thr, 0, 0, 0, 0, 0, 0⟩) 68)) := by go_grown
              have BJ7 := BJ6.out.trans (b7.mono BJ6.out.size)
              have hs7 := BJ6.out.size
              clear f0 f1 f2 f3 f4 f5 f6 f7 q6 b7 hkd HKD GC BJ6
              generalize hb7 : w6.heap.size = B7 at *
              generalize hW : w6.alloc (.cells (evC ⟨2, e.thr, 0, 0, 0, 0, 0, 0⟩) 68) = w7 at *
              clear hW hb7
              have f2 := p7.cell 2 _ rfl
              have f3 := p7.cell 3 _ rfl
              have f4 := p7.cell 4 _ rfl
              have f5 := p7.cell 5 _ rfl
              have f6 := p7.cell 6 _ rfl
              have f7 := p7.cell 7 _ rfl
              have g0 := q7.cell 0 _ rfl
              have g2 := q7.cell 2 _ rfl
              have g3 := q7.cell 3 _ rfl
              have g4 := q7.cell 4 _ rfl
              have g5 := q7.cell 5 _ rfl
              have g6 := q7.cell 6 _ rfl
              have g7 := q7.cell 7 _ rfl
              have z2 := q7.free 2
              have z3 := q7.free 3
              have z4 := q7.free 4
              have z5 := q7.free 5
              have z6 := q7.free 6
              have z7 := q7.free 7
              have q8 := ((q7.set 2 (.int .i64 e.idx)).set 6 (.int .i64 e.code)).set 7 (.int .i64 e.val)
              have k8 := (((Keep.refl (fun b => b = B7) w7).set (p := ⟨B7, 2, none⟩) (fun _ => rfl) (.int .i64 e.idx)).set (p := ⟨B7, 6, none⟩) (fun _ => rfl) (.int .i64 e.code)).set (p := ⟨B7, 7, none⟩) (fun _ => rfl) (.int .i64 e.val)
              go_upto_region 30 with fail
              go_region
              go_upto_region 35 with fail
              simp only [List.setIfInBounds_toArray, List.set_cons_zero, List.set_cons_succ] at q8
              have b8 := BJ7.trans (k8.below BJ7.size (fun b _ e => e ▸ hs7))
              have bd := bdrewP (((w7.setCell ⟨B7, 2, none⟩ (.int .i64 e.idx)).setCell ⟨B7, 6, none⟩ (.int .i64 e.code)).setCell ⟨B7, 7, none⟩ (.int .i64 e.val))
              have q9 := q8.below bd q8.lt
              have b9 := b8.trans (bd.mono b8.size)
              clear f2 f3 f4 f5 f6 f7 g0 g2 g3 g4 g5 g6 g7 z2 z3 z4 z5 z6 z7 q8 k8 b8 bd BJ7 p7 q7
              generalize (((w7.setCell ⟨B7, 2, none⟩ (.int .i64 e.idx)).setCell ⟨B7, 6, none⟩ (.int .i64 e.code)).setCell ⟨B7, 7, none⟩ (.int .i64 e.val)).drew = w9 at *
              have bdd := bdrewP w9
              have SK := Lib.hid (show ∀ V, Below w9.heap.size w9 V → V.cell? ⟨B7, 0, none⟩ = some (.int .i64 2) ∧ V.cell? ⟨B7, 1, none⟩ = some (.int .i64 e.thr) ∧ V.cell? ⟨B7, 2, none⟩ = some (.int .i64 e.idx) ∧ V.cell? ⟨B7, 3, none⟩ = some (.int .i64 0) ∧ V.cell? ⟨B7, 4, none⟩ = some (.int .i64 0) ∧ V.cell? ⟨B7, 5, none⟩ = some (.int .i64 0) ∧ V.cell? ⟨B7, 6, none⟩ = some (.int .i64 e.code) ∧ V.cell? ⟨B7, 7, none⟩ = some (.int .i64 e.val) ∧ V.cell? ⟨bg, j * 8, none⟩ = some (.int .i64 2) ∧ V.cell? ⟨bg, j * 8 + 1, none⟩ = some (.int .i64 e.thr) ∧ V.cell? ⟨bg, j * 8 + 2, none⟩ = some (.int .i64 e.idx) ∧ V.cell? ⟨bg, j * 8 + 3, none⟩ = some (.int .i64 0) ∧ V.cell? ⟨bg, j * 8 + 4, none⟩ = some (.int .i64 0) ∧ V.cell? ⟨bg, j * 8 + 5, none⟩ = some (.int .i64 0) ∧ V.cell? ⟨bg, j * 8 + 6, none⟩ = some (.int .i64 e.code) ∧ V.cell? ⟨bg, j * 8 + 7, none⟩ = some (.int .i64 e.val) from fun V hV => by
                have q9 := q9.below hV q9.lt
                have b9 := b9.trans (hV.mono b9.size)
                exact ⟨q9.cell 0 _ rfl, q9.cell 1 _ rfl, q9.cell 2 _ rfl, q9.cell 3 _ rfl, q9.cell 4 _ rfl, q9.cell 5 _ rfl, q9.cell 6 _ rfl, q9.cell 7 _ rfl, GC1.out _ b9 0 _ rfl, GC1.out _ b9 1 _ rfl, GC1.out _ b9 2 _ rfl, GC1.out _ b9 3 _ rfl, GC1.out _ b9 4 _ rfl, GC1.out _ b9 5 _ rfl, GC1.out _ b9 6 _ rfl, GC1.out _ b9 7 _ rfl⟩)
              clear q9
              go_region_held3 (fun V => V.cell? ⟨B7, 0, none⟩ = some (.int .i64 2) ∧ V.cell? ⟨B7, 1, none⟩ = some (.int .i64 e.thr) ∧ V.cell? ⟨B7, 2, none⟩ = some (.int .i64 e.idx) ∧ V.cell? ⟨B7, 3, none⟩ = some (.int .i64 0) ∧ V.cell? ⟨B7, 4, none⟩ = some (.int .i64 0) ∧ V.cell? ⟨B7, 5, none⟩ = some (.int .i64 0) ∧ V.cell? ⟨B7, 6, none⟩ = some (.int .i64 e.code) ∧ V.cell? ⟨B7, 7, none⟩ = some (.int .i64 e.val) ∧ V.cell? ⟨bg, j * 8, none⟩ = some (.int .i64 2) ∧ V.cell? ⟨bg, j * 8 + 1, none⟩ = some (.int .i64 e.thr) ∧ V.cell? ⟨bg, j * 8 + 2, none⟩ = some (.int .i64 e.idx) ∧ V.cell? ⟨bg, j * 8 + 3, none⟩ = some (.int .i64 0) ∧ V.cell? ⟨bg, j * 8 + 4, none⟩ = some (.int .i64 0) ∧ V.cell? ⟨bg, j * 8 + 5, none⟩ = some (.int .i64 0) ∧ V.cell? ⟨bg, j * 8 + 6, none⟩ = some (.int .i64 e.code) ∧ V.cell? ⟨bg, j * 8 + 7, none⟩ = some (.int .i64 e.val)) (exact SK.out _ bdd) (fail)
              go_wp2_with fail
              go_roundw
              case rel => exact ⟨j + 1, hlj, rfl, b9.trans (bdd.mono b9.size)⟩
              case measure => simp [intOf]; omega
          · obtain rfl : j = i := by omega
            clear V8 R8 hbr
            have T9 := T8.out.below HBJ.out
            have d3 := T9.own.cell 3 _ rfl
            have HS := Lib.hid (steps_any _ _ _ _ wr T9.cells)
            have BF := Lib.hid (HB1.out.trans ((B8.out.trans (HBJ.out.mono B8.out.size)).mono HB1.out.size))
            clear T9 T8 HBJ B8
            go_wp2_with (go_at_call 27; (with_reducible refine HS.out.mono ?_); rintro e w9 ⟨rfl, rfl⟩)
            go_ret
            exact ⟨rfl, BF.out⟩
end Go.Proofs.YtbaehokffdpopaaGreat
