/- The document's automaton: Next (some event, or none). -/
import Derived.Test.YtcgljmeppmdihaaRsO
import Derived.Test.YtcgljmeppmdihaaRsG
namespace Go.Proofs.Ytcgljmeppmdihaa
open Go.ChangeShapes Go.WideShapes Go.ChangeAt Go.RowKit
set_option linter.unusedVariables false
set_option maxRecDepth 100000
set_option linter.unusedSimpArgs false
/-- what Next gives: an event, and whether there is one -/
def NextPost (w : World) (e : Ending) (w' : World) : Prop := ∃ (ev : Ev) (b : Bool), e = .returned (.tuple #[evV ev, .bool b]) ∧ Below w.heap.size w w'
theorem idx_rall (B off len c i : Nat) (h : i < len) : ∀ W, (Instr.indexAt 31 (.slice (some ⟨B, off, none⟩) len c) (.int .i64 (i : Int))).run Try.prog W = .ok (.pointer (some ⟨B, off + i * 8, none⟩)) W := by
  intro W
  go_simp
theorem evt_info : (Try.prog.info? 37).map (·.size) = some 8 := by kernel_rfl
theorem ev_one (e : Ev) : (evC e).all (·.oneCell') = true := by simp [Value.oneCell']
theorem rbelow_row {n : Nat} {w0 w : World} (h : Below n w0 w) {B : Nat} (hb : n ≤ B) (cs : Array Value) : Below n w0 (w.setRow B cs) := by
  refine h.trans ⟨rfl, rfl, rfl, by simp [World.setRow], fun k hk => ?_⟩
  exact setRow_other w B k cs (by omega)
theorem ev_row {w : World} {br : Nat} (h : Blk w br 37 (evC ⟨0, 0, 0, 0, 0, 0, 0, 0⟩)) (e0 e1 e2 e3 e4 e5 e6 e7 : Int) :
    Blk (w.setRow br #[.int .i64 e0, .int .i64 e1, .int .i64 e2, .int .i64 e3, .int .i64 e4, .int .i64 e5, .int .i64 e6, .int .i64 e7]) br 37 #[.int .i64 e0, .int .i64 e1, .int .i64 e2, .int .i64 e3, .int .i64 e4, .int .i64 e5, .int .i64 e6, .int .i64 e7] := h.row _
theorem int8 (e0 e1 e2 e3 e4 e5 e6 e7 : Int) : (#[.int .i64 e0, .int .i64 e1, .int .i64 e2, .int .i64 e3, .int .i64 e4, .int .i64 e5, .int .i64 e6, .int .i64 e7] : Array Value).all (·.oneCell') = true := by simp [Value.oneCell']
theorem rhand_bool {w w' : World} {p : RPl} {s : RS} {Q : RS → Prop} {e : Ending} (h : RHand w p s Q e w') : ∃ bt : Bool, e = .returned (.bool bt) := by
  rcases h.2 with ⟨r, h, _⟩ | ⟨h, _⟩
  · exact ⟨_, h⟩
  · exact ⟨_, h⟩
/-- what the walk of Next keeps: its result's block, and the automaton -/
structure NxS (w W : World) (p : RPl) (s : RS) (br : Nat) (ev : Ev) : Prop where
  rs : RsAt W p s
  res : Blk W br 37 (evC ev)
  bw : Below w.heap.size w W
  lo : w.heap.size ≤ br
theorem NxS.below {w W W1 : World} {p : RPl} {s : RS} {br : Nat} {ev : Ev} (h : NxS w W p s br ev) (hb : Below W.heap.size W W1) : NxS w W1 p s br ev := ⟨h.rs.below hb, h.res.below hb h.res.lt, h.bw.trans (hb.mono h.bw.size), h.lo⟩
theorem next_end {w W : World} {br : Nat} (q0 : Blk W br 37 (evC ⟨0, 0, 0, 0, 0, 0, 0, 0⟩)) (hB : Below w.heap.size w W) (hlo : w.heap.size ≤ br) (a : Act) (e0 e1 e2 e3 e4 e5 e6 e7 : Int) (b : Bool)
    (h8 : a.tmps.getD 8 undef = .pointer (some ⟨br, 0, none⟩)) (h9 : a.tmps.getD 9 undef = .bool b) (hd : a.defers = []) :
    bodyPost Try.prog Try.f33 (NextPost w) Exit.ret a (W.setRow br #[.int .i64 e0, .int .i64 e1, .int .i64 e2, .int .i64 e3, .int .i64 e4, .int .i64 e5, .int .i64 e6, .int .i64 e7]) := by
  have q := ev_row q0 e0 e1 e2 e3 e4 e5 e6 e7
  have d0 := q.cell 0 _ rfl
  have d1 := q.cell 1 _ rfl
  have d2 := q.cell 2 _ rfl
  have d3 := q.cell 3 _ rfl
  have d4 := q.cell 4 _ rfl
  have d5 := q.cell 5 _ rfl
  have d6 := q.cell 6 _ rfl
  have d7 := q.cell 7 _ rfl
  refine bodyPost_ret (v := .tuple #[.agg #[.int .i64 e0, .int .i64 e1, .int .i64 e2, .int .i64 e3, .int .i64 e4, .int .i64 e5, .int .i64 e6, .int .i64 e7], .bool b]) ?_ hd ⟨⟨e0, e1, e2, e3, e4, e5, e6, e7⟩, b, rfl, rbelow_row hB hlo _⟩
  simp only [Array.getD_eq_getD_getElem?] at h8 h9
  simp [results, Try.results33, go_sem, h8, h9, d0, d1, d2, d3, d4, d5, d6, d7]
set_option maxHeartbeats 4000000 in
theorem rnext_any {w : World} {p : RPl} {s : RS} (h : RsAt w p s) (h1 : 1 ≤ s.W.length ∧ s.W.length ≤ 65536) (h2 : s.D.length = s.W.length) (h3 : 1 ≤ s.T.length ∧ s.T.length ≤ 32766) {t : Nat} (ht : t < s.T.length) (n op : Nat) (hn : n ≤ 255) (ho : op ≤ 255) :
    Calls Try.prog 33 #[rspV p, .int .i64 (t : Int), .int .u8 (n : Int), .int .u8 (op : Int)] w (NextPost w) := by
  obtain ⟨x, hx⟩ : ∃ x, s.T[t]? = some x := ⟨_, List.getElem?_eq_getElem ht⟩
  rcases x with ⟨xcalls, xopn, xop, xobj, xarg, xfar, xcode, xval, xflag, xsaved, xsince⟩
  have it := idx_rthrs p.T s.T.length p.cT t ht
  have HX := Lib.hid hx
  have H0 := Lib.hid (show NxS w (w.alloc (.cells (evC ⟨0, 0, 0, 0, 0, 0, 0, 0⟩) 37)) p s w.heap.size ⟨0, 0, 0, 0, 0, 0, 0, 0⟩ from ⟨h.alloc _, Blk.new _ _ _, (Below.refl _ _).alloc (Nat.le_refl _) _, Nat.le_refl _⟩)
  have HLen := Lib.hid (And.intro h1 (And.intro h2 h3))
  have hhsz : Hid ((Try.prog.info? 91).map (·.size) = some 11) := Lib.hid (by kernel_rfl)
  have hone : Hid ((#[.int .i64 xcalls, .bool xopn, .int .i64 xop, .int .i64 xobj, .int .i64 xarg, .int .i64 xfar, .int .i64 xcode, .int .i64 xval, .bool xflag, .int .i64 xsaved, .int .i64 xsince] : Array Value).all (·.oneCell') = true) := Lib.hid (by simp [Value.oneCell'])
  have hesz : Hid ((Try.prog.info? 37).map (·.size) = some 8) := Lib.hid evt_info
  clear h hx h1 h2 h3 ht
  go_enter Try.func33, Try.ntmps33
  go_upto_region 1 with fail
  generalize hW : w.alloc _ = W at H0 ⊢
  obtain ⟨br, hbr⟩ : ∃ br, br = w.heap.size := ⟨_, rfl⟩
  rw [← hbr] at H0 ⊢
  clear hW hbr
  have c2 := H0.out.rs.c.c2
  have HC := Lib.hid (show ∀ j v, ([.int .i64 xcalls, .bool xopn, .int .i64 xop, .int .i64 xobj, .int .i64 xarg, .int .i64 xfar, .int .i64 xcode, .int .i64 xval, .bool xflag, .int .i64 xsaved, .int .i64 xsince] : List Value)[j]? = some v → W.cell? ((⟨p.T, t * 11, none⟩ : Addr).add j) = some v from fun j v hj => by rw [Go.WideShapes.add_plain]; exact H0.out.rs.th.cell HX.out j v hj)
  go_upto_region 2 with (first
    | (refine wpList_load_at rfl 91 _ rfl ⟨p.T, t * 11, none⟩ rfl [.int .i64 xcalls, .bool xopn, .int .i64 xop, .int .i64 xobj, .int .i64 xarg, .int .i64 xfar, .int .i64 xcode, .int .i64 xval, .bool xflag, .int .i64 xsaved, .int .i64 xsince] _ HC.out Try.underlying91 rfl hhsz.out ?_)
    | (refine wpList_store_row rfl 91 _ _ rfl W.heap.size #[.int .i64 xcalls, .bool xopn, .int .i64 xop, .int .i64 xobj, .int .i64 xarg, .int .i64 xfar, .int .i64 xcode, .int .i64 xval, .bool xflag, .int .i64 xsaved, .int .i64 xsince] rfl rfl 91 #[.int .i64 0, .bool false, .int .i64 0, .int .i64 0, .int .i64 0, .int .i64 0, .int .i64 0, .int .i64 0, .bool false, .int .i64 0, .int .i64 0] (Blk.new W _ _) hhsz.out rfl hone.out ?_; (try simp only [Act.put, List.setIfInBounds_toArray, List.set_cons_zero, List.set_cons_succ])))
  rw [World.setRow_alloc_new]
  have qo : Blk (W.alloc (.cells #[.int .i64 xcalls, .bool xopn, .int .i64 xop, .int .i64 xobj, .int .i64 xarg, .int .i64 xfar, .int .i64 xcode, .int .i64 xval, .bool xflag, .int .i64 xsaved, .int .i64 xsince] 91)) W.heap.size 91 #[.int .i64 xcalls, .bool xopn, .int .i64 xop, .int .i64 xobj, .int .i64 xarg, .int .i64 xfar, .int .i64 xcode, .int .i64 xval, .bool xflag, .int .i64 xsaved, .int .i64 xsince] := Blk.new _ _ _
  have HA := Lib.hid (H0.out.below ((Below.refl _ W).alloc (Nat.le_refl _) (.cells #[.int .i64 xcalls, .bool xopn, .int .i64 xop, .int .i64 xobj, .int .i64 xarg, .int .i64 xfar, .int .i64 xcode, .int .i64 xval, .bool xflag, .int .i64 xsaved, .int .i64 xsince] 91)))
  generalize hW1 : W.alloc _ = W1 at qo HA ⊢
  obtain ⟨bo, hbo⟩ : ∃ bo, bo = W.heap.size := ⟨_, rfl⟩
  rw [← hbo] at qo ⊢
  have a0 := qo.cell 0 _ rfl
  have a1 := qo.cell 1 _ rfl
  clear hW1 hbo c2 HC hhsz hone H0 qo
  cases xopn with
  | false =>
    have c0 := HA.out.rs.c.c0
    have c2 := HA.out.rs.c.c2
    have HLn := HLen.out
    generalize s.W.length = lW at c0 HLn
    generalize s.T.length = lT at c2 HLn
    have hl0 : ¬ lW = 0 := by omega
    have hlT : lT ≤ 32766 := by omega
    have hl1 : ¬ ((lT : Int) + 1 = 0) := by omega
    have hlw : IntKind.i64.wrap ((lT : Int) + 1) = (lT : Int) + 1 := IntWalk.i64_in _ ⟨by omega, by omega⟩
    have HD := Lib.hid (HA.out.below (rdrew _))
    clear HLn
    have e10 : ((10 : Int) == 0) = false := by decide
    go_upto_region 3 with fail
    go_still_tail 25, (by kernel_rfl)
    change wpList _ _ _ _ _ W1.drew
    clear c0 c2 a0 a1 hl0 hl1 hlw
    generalize W1.drew = W2 at HD ⊢
    have q0 := HD.out.res
    go_wp2_with (refine wpList_store_row rfl 37 _ _ rfl br _ rfl rfl 37 #[.int .i64 0, .int .i64 0, .int .i64 0, .int .i64 0, .int .i64 0, .int .i64 0, .int .i64 0, .int .i64 0] (q0) hesz.out rfl (int8 _ _ _ _ _ _ _ _) ?_; (try simp only [Act.put, List.setIfInBounds_toArray, List.set_cons_zero, List.set_cons_succ]))
    exact next_end q0 HD.out.bw HD.out.lo _ _ _ _ _ _ _ _ _ _ rfl rfl rfl
  | true =>
    have HEv := Lib.hid (revents_any HA.out.rs xcalls true xop xobj xarg xfar xcode xval xflag xsaved xsince HX.out)
    go_upto_region 5 with (go_at_call 42; (with_reducible refine HEv.out.mono ?_); rintro e w2 ⟨v, L, rfl, hrow, hL1, hL2, b2⟩)
    obtain ⟨g, cap, ls, rfl, hLl, hEv, hg⟩ := hrow
    have HN := Lib.hid (HA.out.below b2)
    have HLs := Lib.hid (And.intro hEv hLl)
    have hL0 : ¬ (L : Int) = 0 := by omega
    have hG := Lib.hid hg
    clear hEv hLl hg
    clear HEv a0 a1 HX
    go_wp2_with fail
    go_loopw [12] (fun v12 wr => ∃ (k : Nat), k ≤ L ∧ v12 = .int .i64 (k : Int) ∧ NxS w wr p s br ⟨0, 0, 0, 0, 0, 0, 0, 0⟩ ∧ Below w2.heap.size w2 wr) (fun v12 _ => (L - intOf v12).toNat)
    case atStart => exact ⟨0, by omega, rfl, HN.out, Below.refl _ _⟩
    case round =>
      obtain ⟨k, hk, rfl, hnx, hbr⟩ := hrel
      have HNx := Lib.hid hnx
      have HBr := Lib.hid hbr
      clear hnx hbr
      have hLn : ¬ L = 0 := by omega
      by_cases hlt : k < L
      · have hltI : (k : Int) < (L : Int) := by omega
        obtain ⟨j, hj⟩ : ∃ j, j = (k + n) % L := ⟨_, rfl⟩
        have hjL : j < L := by rw [hj]; exact Nat.mod_lt _ (by omega)
        have ew0 : IntKind.i64.wrap (n : Int) = (n : Int) := IntWalk.i64_in _ ⟨by omega, by omega⟩
        have ew1 : IntKind.i64.wrap ((k : Int) + (n : Int)) = (k : Int) + (n : Int) := IntWalk.i64_in _ ⟨by omega, by omega⟩
        have ej : ((k : Int) + (n : Int)).tmod (L : Int) = (j : Int) := by rw [hj]; rfl
        have ix : ∀ W, (Instr.indexAt 31 (.slice (some ⟨g, 0, none⟩) L cap) (.int .i64 (j : Int))).run Try.prog W = .ok (.pointer (some ⟨g, j * 8, none⟩)) W := by
          have := idx_rall g 0 L cap j hjL
          simpa using this
        obtain ⟨ev, hev⟩ : ∃ ev, ls[j]? = some ev := ⟨_, List.getElem?_eq_getElem (by rw [HLs.out.2]; exact hjL)⟩
        rcases ev with ⟨f0, f1, f2, f3, f4, f5, f6, f7⟩
        have HC2 := Lib.hid (show ∀ i v, ([.int .i64 f0, .int .i64 f1, .int .i64 f2, .int .i64 f3, .int .i64 f4, .int .i64 f5, .int .i64 f6, .int .i64 f7] : List Value)[i]? = some v → wr.cell? ((⟨g, j * 8, none⟩ : Addr).add i) = some v from fun i v hi => by
          rw [Go.WideShapes.add_plain]
          have h0 := HLs.out.1 j _ hev i v hi
          rw [Nat.zero_add] at h0
          rw [HBr.out.cell hG.out]; exact h0)
        have hone : Hid ((#[.int .i64 f0, .int .i64 f1, .int .i64 f2, .int .i64 f3, .int .i64 f4, .int .i64 f5, .int .i64 f6, .int .i64 f7] : Array Value).all (·.oneCell') = true) := Lib.hid (by simp [Value.oneCell'])
        clear hj hev
        go_upto_region 9 with (first
          | (refine wpList_load_at rfl 37 _ rfl ⟨g, j * 8, none⟩ rfl [.int .i64 f0, .int .i64 f1, .int .i64 f2, .int .i64 f3, .int .i64 f4, .int .i64 f5, .int .i64 f6, .int .i64 f7] _ HC2.out Try.underlying37 rfl hesz.out ?_)
          | (refine wpList_store_row rfl 37 _ _ rfl wr.heap.size #[.int .i64 f0, .int .i64 f1, .int .i64 f2, .int .i64 f3, .int .i64 f4, .int .i64 f5, .int .i64 f6, .int .i64 f7] rfl rfl 37 #[.int .i64 0, .int .i64 0, .int .i64 0, .int .i64 0, .int .i64 0, .int .i64 0, .int .i64 0, .int .i64 0] (Blk.new wr _ _) hesz.out rfl hone.out ?_; (try simp only [Act.put, List.setIfInBounds_toArray, List.set_cons_zero, List.set_cons_succ])))
        rw [World.setRow_alloc_new]
        have qo : Blk (wr.alloc (.cells #[.int .i64 f0, .int .i64 f1, .int .i64 f2, .int .i64 f3, .int .i64 f4, .int .i64 f5, .int .i64 f6, .int .i64 f7] 37)) wr.heap.size 37 #[.int .i64 f0, .int .i64 f1, .int .i64 f2, .int .i64 f3, .int .i64 f4, .int .i64 f5, .int .i64 f6, .int .i64 f7] := Blk.new _ _ _
        have HM := Lib.hid (HNx.out.below ((Below.refl _ wr).alloc (Nat.le_refl _) (.cells #[.int .i64 f0, .int .i64 f1, .int .i64 f2, .int .i64 f3, .int .i64 f4, .int .i64 f5, .int .i64 f6, .int .i64 f7] 37)))
        have HBr2 := Lib.hid (show Below w2.heap.size w2 (wr.alloc (.cells #[.int .i64 f0, .int .i64 f1, .int .i64 f2, .int .i64 f3, .int .i64 f4, .int .i64 f5, .int .i64 f6, .int .i64 f7] 37)) from HBr.out.alloc (HBr.out.size) _)
        generalize hW3 : wr.alloc _ = W3 at qo HM HBr2 ⊢
        obtain ⟨b13, hb13⟩ : ∃ b, b = wr.heap.size := ⟨_, rfl⟩
        rw [← hb13] at qo ⊢
        clear hW3 hb13 ix ej ew0 ew1 HC2 hone
        have HQ := Lib.hid qo
        have HCp := Lib.hid fun V (hV : Below W3.heap.size W3 V) => rcopy_any (HM.out.rs.below hV) HLen.out.1 ⟨by have := HLen.out; omega, by have := HLen.out; omega⟩ HLen.out.2.2
        have SK := Lib.hid (show ∀ V, Below W3.heap.size W3 V → V.cell? ⟨b13, 0, none⟩ = some (.int .i64 f0) ∧ V.cell? ⟨b13, 1, none⟩ = some (.int .i64 f1) ∧ V.cell? ⟨b13, 2, none⟩ = some (.int .i64 f2) ∧ V.cell? ⟨b13, 3, none⟩ = some (.int .i64 f3) ∧ V.cell? ⟨b13, 4, none⟩ = some (.int .i64 f4) ∧ V.cell? ⟨b13, 5, none⟩ = some (.int .i64 f5) ∧ V.cell? ⟨b13, 6, none⟩ = some (.int .i64 f6) ∧ V.cell? ⟨b13, 7, none⟩ = some (.int .i64 f7) from fun V hV => ⟨(HQ.out.below hV HQ.out.lt).cell 0 _ rfl, (HQ.out.below hV HQ.out.lt).cell 1 _ rfl, (HQ.out.below hV HQ.out.lt).cell 2 _ rfl, (HQ.out.below hV HQ.out.lt).cell 3 _ rfl, (HQ.out.below hV HQ.out.lt).cell 4 _ rfl, (HQ.out.below hV HQ.out.lt).cell 5 _ rfl, (HQ.out.below hV HQ.out.lt).cell 6 _ rfl, (HQ.out.below hV HQ.out.lt).cell 7 _ rfl⟩)
        have hTl : s.T.length ≤ 100000 := by have := HLen.out; omega
        have hTd : s.D.length = s.W.length := HLen.out.2.1
        have bd := rdrew W3
        clear qo
        have bc := bd
        go_region_held3 (fun (V : World) => V.cell? ⟨b13, 0, none⟩ = some (.int .i64 f0) ∧ V.cell? ⟨b13, 1, none⟩ = some (.int .i64 f1) ∧ V.cell? ⟨b13, 2, none⟩ = some (.int .i64 f2) ∧ V.cell? ⟨b13, 3, none⟩ = some (.int .i64 f3) ∧ V.cell? ⟨b13, 4, none⟩ = some (.int .i64 f4) ∧ V.cell? ⟨b13, 5, none⟩ = some (.int .i64 f5) ∧ V.cell? ⟨b13, 6, none⟩ = some (.int .i64 f6) ∧ V.cell? ⟨b13, 7, none⟩ = some (.int .i64 f7)) (exact SK.out _ bc) (first
          | (go_at_call 43; (with_reducible refine (HCp.out _ bc).mono ?_); rintro e5 w5 ⟨p2, rfl, h5, hfr, b5⟩; replace hfr : ∀ b, rB p2 b → W3.heap.size ≤ b := (fun b h => Nat.le_trans bc.size (hfr b h)); replace bc := Below.trans bc (Below.mono b5 bc.size))
          | (go_at_call 34; (with_reducible refine (rtake_any h5 hTl hTd ⟨f0, f1, f2, f3, f4, f5, f6, f7⟩).mono ?_); rintro e6 w6 hr6; obtain ⟨bt, rfl⟩ : ∃ bt : Bool, e6 = .returned (.bool bt) := rhand_bool hr6; replace bc := Below.trans bc (hr6.1.below bc.size (fun i _ hq => hfr i hq))))
        have HB6 := Lib.hid bc
        clear bd bc hr6 h5 hfr b5 HCp SK hTl hTd
        cases bt with
        | false =>
          go_wp2_with fail
          go_roundw
          case rel => exact ⟨k + 1, by omega, by go_num, HM.out.below HB6.out, HBr2.out.trans (HB6.out.mono HBr2.out.size)⟩
          case measure => simp [intOf]; omega
        | true =>
          have q1 := HQ.out.below HB6.out HQ.out.lt
          have HM6 := Lib.hid (HM.out.below HB6.out)
          have q0 := HM6.out.res
          have HC6 := Lib.hid (show ∀ i v, ([.int .i64 f0, .int .i64 f1, .int .i64 f2, .int .i64 f3, .int .i64 f4, .int .i64 f5, .int .i64 f6, .int .i64 f7] : List Value)[i]? = some v → w6.cell? ((⟨b13, 0, none⟩ : Addr).add i) = some v from fun i v hi => by
            rw [Go.WideShapes.add_plain, Nat.zero_add]
            exact q1.cell i v (by simpa using hi))
          have HQ0 := Lib.hid q0
          clear q0 q1
          go_wp2_with (first
            | (refine wpList_load_at rfl 37 _ rfl ⟨b13, 0, none⟩ rfl [.int .i64 f0, .int .i64 f1, .int .i64 f2, .int .i64 f3, .int .i64 f4, .int .i64 f5, .int .i64 f6, .int .i64 f7] _ HC6.out Try.underlying37 rfl hesz.out ?_)
            | (refine wpList_store_row rfl 37 _ _ rfl br #[.int .i64 f0, .int .i64 f1, .int .i64 f2, .int .i64 f3, .int .i64 f4, .int .i64 f5, .int .i64 f6, .int .i64 f7] rfl rfl 37 #[.int .i64 0, .int .i64 0, .int .i64 0, .int .i64 0, .int .i64 0, .int .i64 0, .int .i64 0, .int .i64 0] (HQ0.out) hesz.out rfl (int8 _ _ _ _ _ _ _ _) ?_; (try simp only [Act.put, List.setIfInBounds_toArray, List.set_cons_zero, List.set_cons_succ])))
          exact next_end HQ0.out HM6.out.bw HM6.out.lo _ _ _ _ _ _ _ _ _ _ rfl rfl rfl
      · obtain rfl : k = L := by omega
        have hki : ¬ (k : Int) < (k : Int) := by omega
        have q0 := HNx.out.res
        go_wp2_with (refine wpList_store_row rfl 37 _ _ rfl br _ rfl rfl 37 #[.int .i64 0, .int .i64 0, .int .i64 0, .int .i64 0, .int .i64 0, .int .i64 0, .int .i64 0, .int .i64 0] (q0) hesz.out rfl (int8 _ _ _ _ _ _ _ _) ?_; (try simp only [Act.put, List.setIfInBounds_toArray, List.set_cons_zero, List.set_cons_succ]))
        exact next_end q0 HNx.out.bw HNx.out.lo _ _ _ _ _ _ _ _ _ _ rfl rfl rfl
end Go.Proofs.Ytcgljmeppmdihaa
