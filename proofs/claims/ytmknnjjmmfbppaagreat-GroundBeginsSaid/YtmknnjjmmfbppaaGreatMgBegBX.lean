/- GroundBegins: the law. -/
import Derived.Test.YtmknnjjmmfbppaaGreatMgBegBU
import Derived.Test.YtmknnjjmmfbppaaGreatMgBegBV
import Derived.Test.YtmknnjjmmfbppaaGreatMgBegBW
namespace Go.Proofs.YtmknnjjmmfbppaaGreat
open Go.ChangeShapes Go.WideShapes Go.ChangeAt Go.RowKit Wd
set_option linter.unusedVariables false
set_option maxRecDepth 100000
set_option linter.unusedSimpArgs false
theorem brow_sliceAt {w : World} {B n : Nat} {t : TypeId} {v : Value} {l : List Int} (h : w.ownsRow B t 1 v n (l.map intE)) (hl : l.length = n) : SliceAt intE w v l := by
  rcases h.2 with ⟨rfl, h0⟩ | ⟨g, c, cur, rfl, _⟩
  · have : l = [] := List.eq_nil_of_length_eq_zero (hl.trans h0)
    subst this
    exact nil_slice w
  · refine ⟨some ⟨g, 0, none⟩, c, by rw [hl], fun i x hx => ⟨g, 0, rfl, ?_⟩⟩
    have := h.cells (g := g) rfl i (intE x) (by rw [List.getElem?_map, hx]; rfl)
    rw [gaddr_add] at this
    rwa [Nat.zero_add]
/-- where the law stands: the ground, the map, the draft, the raw map -/
structure GbS (K : World → Prop) (w : World) (B0 Br B3 : Nat) (m : Mp) (dcs rcs : Array Value) (V : World) : Prop where
  k : K V
  mB : Blk V B3 28 (mapCs m)
  dB : Blk V B0 26 dcs
  rB : Blk V Br 28 rcs
  bw : Below w.heap.size w V
theorem GbS.below {K : World → Prop} {w : World} {B0 Br B3 G sz : Nat} {m : Mp} {mm : List Int} {cv pv : Value} {dcs rcs : Array Value} {V V' : World} (h : GbS K w B0 Br B3 m dcs rcs V) (hk : KG K G m mm sz cv pv) (hb : Below V.heap.size V V') : GbS K w B0 Br B3 m dcs rcs V' :=
  ⟨hk.below h.k hb, h.mB.below hb h.mB.lt, h.dB.below hb h.dB.lt, h.rB.below hb h.rB.lt, h.bw.trans (hb.mono h.bw.size)⟩
theorem GbS.ev {K : World → Prop} {w : World} {B0 Br B3 G : Nat} {m : Mp} {dcs rcs : Array Value} {V V' : World} (h : GbS K w B0 Br B3 m dcs rcs V) (hk : K V') (hb : Keep (fun b => b = G) V V') (h0 : B0 ≠ G) (h1 : Br ≠ G) (h2 : B3 ≠ G) (hw : w.heap.size ≤ G) : GbS K w B0 Br B3 m dcs rcs V' :=
  ⟨hk, h.mB.keep hb h2, h.dB.keep hb h0, h.rB.keep hb h1, h.bw.trans (hb.below h.bw.size (fun b _ e => e ▸ hw))⟩
/-- and both rows -/
structure GbR (K : World → Prop) (w : World) (B0 Br B3 : Nat) (m : Mp) (dcs rcs : Array Value) (S g : Nat) (L2 mm : List Int) (V : World) : Prop where
  s : GbS K w B0 Br B3 m dcs rcs V
  want : Blk V S 55 (words L2)
  got : RowC V g mm
theorem GbR.below {K : World → Prop} {w : World} {B0 Br B3 G sz S g : Nat} {m : Mp} {mm L2 : List Int} {cv pv : Value} {dcs rcs : Array Value} {V V' : World} (h : GbR K w B0 Br B3 m dcs rcs S g L2 mm V) (hk : KG K G m mm sz cv pv) (hb : Below V.heap.size V V') : GbR K w B0 Br B3 m dcs rcs S g L2 mm V' :=
  ⟨h.s.below hk hb, h.want.below hb h.want.lt, h.got.keep (F := fun _ => False) (Keep.ofBelow hb) (fun h => h)⟩
theorem GbR.ev {K : World → Prop} {w : World} {B0 Br B3 G S g : Nat} {m : Mp} {mm L2 : List Int} {dcs rcs : Array Value} {V V' : World} (h : GbR K w B0 Br B3 m dcs rcs S g L2 mm V) (hk : K V') (hb : Keep (fun b => b = G) V V') (h0 : B0 ≠ G) (h1 : Br ≠ G) (h2 : B3 ≠ G) (hw : w.heap.size ≤ G) (hS : S ≠ G) (hg : g ≠ G) : GbR K w B0 Br B3 m dcs rcs S g L2 mm V' :=
  ⟨h.s.ev hk hb h0 h1 h2 hw, h.want.keep hb hS, h.got.keep hb hg⟩
/-- what is read of the ground and the map -/
def GbC (G B3 : Nat) (m : Mp) (cv pv : Value) (V : World) : Prop :=
  V.cell? ⟨G, 0, none⟩ = some (.int .i64 (m.t : Int)) ∧ V.cell? ⟨G, 1, none⟩ = some (.int .i64 (m.o : Int)) ∧ V.cell? ⟨G, 2, none⟩ = some (.int .i64 (m.n : Int)) ∧ V.cell? ⟨G, 3, none⟩ = some cv ∧ V.cell? ⟨G, 4, none⟩ = some pv ∧ V.cell? ⟨B3, 0, none⟩ = some (.int .i64 (m.t : Int)) ∧ V.cell? ⟨B3, 1, none⟩ = some (.int .i64 (m.o : Int)) ∧ V.cell? ⟨B3, 2, none⟩ = some (.int .i64 (m.n : Int))
theorem GbR.c {K : World → Prop} {w : World} {B0 Br B3 G sz S g : Nat} {m : Mp} {mm L2 : List Int} {cv pv : Value} {dcs rcs : Array Value} {V : World} (h : GbR K w B0 Br B3 m dcs rcs S g L2 mm V) (hk : KG K G m mm sz cv pv) : GbC G B3 m cv pv V := by
  obtain ⟨a0, a1, a2, a3, a4⟩ := hk.cell h.s.k
  obtain ⟨b0, b1, b2⟩ := map3 h.s.mB
  exact ⟨a0, a1, a2, a3, a4, b0, b1, b2⟩
/-- small grounds: New answers as the document's Right -/
def SmallPost (o t n : Int) (H : List Int) (V : World) (e : Ending) (w' : World) : Prop :=
  Below V.heap.size V w' ∧ ((∃ a, e = .returned (.pointer (some a)) ∧ HeadsOk o H ∧ rightS t o n = true) ∨ (e = .returned (.pointer none) ∧ ¬ (HeadsOk o H ∧ rightS t o n = true)))
theorem small_any (t o n : Int) (hv : Value) (H : List Int) (V : World) (hh : SliceAt (Value.int .i64) V hv H) (hsm : t < 100 ∧ o < 100 ∧ n < 100) :
    Calls Tryz.prog 8 #[.agg #[.int .i64 t, .int .i64 o, .int .i64 n], hv, .slice none 0 0] V (SmallPost o t n H V) := by
  cases hr : rightS t o n with
  | false =>
    refine (gnew_no hv (.slice none 0 0) t o n V hr).mono ?_
    rintro e w' ⟨rfl, hb⟩
    exact ⟨hb, .inr ⟨rfl, fun h => by rw [hr] at h; exact absurd h.2 (by simp)⟩⟩
  | true =>
    have hq : 1 ≤ t ∧ t ≤ 32766 ∧ 1 ≤ o ∧ o ≤ 65536 ∧ 0 ≤ n ∧ n ≤ 4096 := by simpa [rightS] using hr
    obtain ⟨t', rfl⟩ := Int.eq_ofNat_of_zero_le (show 0 ≤ t by omega)
    obtain ⟨o', rfl⟩ := Int.eq_ofNat_of_zero_le (show 0 ≤ o by omega)
    obtain ⟨n', rfl⟩ := Int.eq_ofNat_of_zero_le (show 0 ≤ n by omega)
    have hm : (Mp.mk t' o' n').ok := ⟨by show 1 ≤ t' ∧ t' ≤ 32766; omega, by show 1 ≤ o' ∧ o' ≤ 65536; omega, by show n' ≤ 4096; omega⟩
    have hgh : GoodH ⟨t', o', n'⟩ H ↔ HeadsOk (o' : Int) H := by
      constructor
      · intro h j x hj hx
        have := h j (by show j < o'; omega)
        unfold goodO hashO at this
        rw [hx] at this
        exact this
      · intro h j hj
        unfold goodO hashO
        cases hx : H[j]? with
        | none => simp
        | some x => exact h j x (by have : j < o' := hj; omega) hx
    refine (gnew_any ⟨t', o', n'⟩ H [] hv (.slice none 0 0) V hm hh ⟨none, 0, rfl, fun i x h => by simp at h⟩).mono ?_
    rintro e w' (⟨hg, g, rfl, _, hb, _⟩ | ⟨hg, rfl, hb⟩)
    · exact ⟨hb, .inl ⟨_, rfl, hgh.1 hg, hr⟩⟩
    · exact ⟨hb, .inr ⟨rfl, fun h => hg (hgh.2 h.1)⟩⟩
theorem bidx_u64 (len cap B i : Nat) (h : i < len) : ∀ W, (Instr.indexAt 34 (.slice (some ⟨B, 0, none⟩) len cap) (.int .i64 (i : Int))).run Tryz.prog W = .ok (.pointer (some ⟨B, i, none⟩)) W := by
  intro W
  go_simp
theorem hq_map (a b c : Int) : ∀ V, (binOp .neq 28 (.agg #[.int .i64 a, .int .i64 b, .int .i64 c]) (.agg #[.int .i64 a, .int .i64 b, .int .i64 c])).run Tryz.prog V = .ok (.bool false) V := by
  intro V
  go_simp
set_option maxHeartbeats 8000000 in
theorem begins_gen (n0 n1 n2 : Nat) (b0 : n0 ≤ 255) (b1 : n1 ≤ 255) (b2 : n2 ≤ 255) (ha : Option Addr) (hn hc : Nat) (fa : Option Addr) (fn fc : Nat) (H : List Int) (F : List Bool) (rt ro rn : Int) (real : Bool) (w : World)
    (hh : SlN intE w ha H) (hl : H.length = min hn 8) (hfF : SlN Value.bool w fa F) (hlF : F.length = min fn 8) (hf : fn ≤ fc) (hhc : hn ≤ hc) (hn3 : hn ≤ 9223372036854775807) (fn3 : fn ≤ 9223372036854775807)
    (m : Mp) (hm : m = mD n0 n1 n2) (Hs : List Int) (hHs : Hs = H.map hp) (mm L2 : List Int) (sz : Nat) (hsz : sz ≤ 1000000 ∧ L2.length = sz)
    (hag : ∀ (i : Nat) c, L2[i]? = some c → i ≠ 1 → (∀ k : Int, 0 ≤ k → k < m.n → i ≠ linkN m k) → mm[i]? = some c)
    (hkn : ∀ V hv fv, SliceAt (Value.int .i64) V hv Hs → SliceAt Value.bool V fv F → Calls Tryz.prog 8 #[mapV m, hv, fv] V (MadeK V m mm sz))
    (hkr : ∀ V hv fv, SliceAt (Value.int .i64) V hv Hs → SliceAt Value.bool V fv F → Calls Tryz.prog 9 #[mapV m, hv, fv] V (MadeK V m mm sz))
    (hrc : ∀ V (ah : Option Addr) (nh ch : Nat) (fa : Option Addr) (kf fc : Nat), SliceAt intE V (.slice ah nh ch) Hs → SliceAt Value.bool V (.slice fa kf fc) F → nh = Hs.length → kf = F.length → Calls Tryz.prog 11 #[mapV m, .slice ah nh ch, .slice fa kf fc] V (fun e w' => ∃ S, e = .returned (.slice (some ⟨S, 0, none⟩) sz sz) ∧ Blk w' S 55 (words L2) ∧ V.heap.size ≤ S ∧ Below V.heap.size V w'))
    (hrv : ∀ V S (o : Nat), o < m.o → Blk V S 55 (words L2) → Calls Tryz.prog 20 #[mapV m, .slice (some ⟨S, 0, none⟩) sz sz, .int .i64 (o : Int)] V fun e w' => e = .returned (viewV (-1) 0 (.slice none 0 0)) ∧ Below V.heap.size V w') :
    Calls Tryz.prog 3 #[draftV n0 n1 n2 ha hn hc fa fn fc, .agg #[.int .i64 rt, .int .i64 ro, .int .i64 rn], .bool real] w fun e w' => e = .returned (.bool true) ∧ Below w.heap.size w w' := by
  have HW := Lib.hid fun V => works13_any V
  obtain ⟨kf, hkf⟩ : ∃ kf, kf = min fn 8 := ⟨_, rfl⟩
  have HP := Lib.hid fun V (hV : Below w.heap.size w V) => parts_any n0 n1 n2 b0 b1 b2 ha hn hc fa fn fc H V (hh.below hV) hl hf hn3 fn3 kf hkf
  have HF := Lib.hid fun V (hV : Below w.heap.size w V) => SlN.at (c := fc) (hfF.below hV) (hlF.trans hkf.symm)
  have HHH := Lib.hid (And.intro hh hl)
  have HNN := Lib.hid (And.intro hhc hn3)
  have HFL := Lib.hid (hlF.trans hkf.symm)
  have hok := mD_ok n0 n1 n2
  rw [← hm, ← hHs] at HP
  rw [← hm] at hok
  have HMT := Lib.hid (show m.t ≤ 32766 ∧ m.o ≤ 65536 ∧ m.n ≤ 4096 from ⟨hok.t.2, hok.o.2, hok.n⟩)
  have HOK := Lib.hid hok
  unfold MadeK at hkn hkr
  have HN := Lib.hid hkn
  have HRl := Lib.hid hkr
  have HAG := Lib.hid hag
  have HRC0 := Lib.hid hrc
  have HRV0 := Lib.hid hrv
  have HSZ := Lib.hid hsz
  clear hh hl hfF hlF hf hn3 fn3 hkf hm hHs hhc hsz hok hag hkn hkr hrc hrv
  go_enter Tryz.func3, Tryz.ntmps3
  go_upto_region 1 with fail
  generalize hW : (w.alloc _).alloc _ = W
  have bW : Below w.heap.size w W := by rw [← hW]; go_grown
  have q0 : Blk W w.heap.size 26 #[.int .u8 (n0 : Int), .int .u8 (n1 : Int), .int .u8 (n2 : Int), .slice ha hn hc, .slice fa fn fc] := by rw [← hW]; exact (Blk.new w _ _).alloc _
  have qr : Blk W (w.heap.size + 1) 28 #[.int .i64 rt, .int .i64 ro, .int .i64 rn] := by rw [← hW]; exact blk_two w _ _ _
  clear hW
  have c0 := q0.cell 0 _ rfl
  have c1 := q0.cell 1 _ rfl
  have c2 := q0.cell 2 _ rfl
  have c3 := q0.cell 3 _ rfl
  have c4 := q0.cell 4 _ rfl
  have HP1 := Lib.hid (HP.out W bW)
  have hs1 := bW.size
  go_upto_region 2 with (go_at_call 7; (with_reducible refine HP1.out.mono ?_); rintro e w2 ⟨hv, rfl, hrow, b2⟩)
  have q3 : Blk (w2.alloc (.cells (mapCs m) 28)) w2.heap.size 28 (mapCs m) := Blk.new _ _ _
  have b23 : Below w2.heap.size w2 (w2.alloc (.cells (mapCs m) 28)) := by go_grown
  have b13 := b2.trans (b23.mono b2.size)
  have bw3 := bW.trans (b13.mono hs1)
  have qd3 := q0.below b13 q0.lt
  have qr3 := qr.below b13 qr.lt
  obtain ⟨ah, ch, rfl, hcH0⟩ := (brow_sliceAt hrow rfl).below b23
  have s1 : SliceAt intE (w2.alloc (.cells (mapCs m) 28)) (.slice ah Hs.length ch) Hs := ⟨ah, ch, rfl, hcH0⟩
  obtain ⟨nh, hnh⟩ : ∃ nh, Hs.length = nh := ⟨_, rfl⟩
  have HNH := Lib.hid hnh
  rw [hnh] at s1 ⊢
  clear hcH0 hnh
  have s2 := HF.out _ bw3
  have hlt23 : w.heap.size + 1 < w2.heap.size := by have := b2.size; have := qr.lt; omega
  generalize hb3 : w2.heap.size = B3 at *
  generalize hW : w2.alloc (.cells (mapCs m) 28) = w3 at *
  obtain ⟨B0, hB0⟩ : ∃ B0, B0 = w.heap.size := ⟨_, rfl⟩
  obtain ⟨Br, hBr⟩ : ∃ Br, Br = w.heap.size + 1 := ⟨_, rfl⟩
  rw [← hB0] at qd3
  rw [← hBr] at qr3
  rw [← hBr, ← hB0]
  have HBB := Lib.hid (show w.heap.size ≤ B3 ∧ B0 < B3 ∧ Br < B3 from ⟨by omega, by omega, by omega⟩)
  clear hW hb3 c0 c1 c2 c3 c4 q0 qr hrow b23 b2 HP HP1 HF bW b13 hs1 hlt23 hB0 hBr
  have HN3 := Lib.hid (HN.out w3 _ _ s1 s2)
  have S1 := Lib.hid s1
  have S2 := Lib.hid s2
  have HB3 := Lib.hid (And.intro bw3 (And.intro qd3 (And.intro qr3 q3)))
  obtain ⟨c0, c1, c2⟩ := map3 q3
  clear HN s1 s2 bw3 qd3 qr3
  go_upto_region 3 with (go_at_call 8; (with_reducible refine HN3.out.mono ?_); rintro e w4 ⟨G0, K0, cv0, pv0, rfl, hk0, hK0, b4, hG0⟩)
  have q4 := q3.below b4 q3.lt
  replace S1 := Lib.hid (S1.out.below b4)
  replace S2 := Lib.hid (S2.out.below b4)
  have HB4 := Lib.hid (show Below w.heap.size w w4 ∧ Blk w4 B0 26 #[.int .u8 (n0 : Int), .int .u8 (n1 : Int), .int .u8 (n2 : Int), .slice ha hn hc, .slice fa fn fc] ∧ Blk w4 Br 28 #[.int .i64 rt, .int .i64 ro, .int .i64 rn] ∧ Blk w4 B3 28 (mapCs m) from by
    obtain ⟨h1, h2, h3, h4⟩ := HB3.out
    exact ⟨h1.trans (b4.mono h1.size), h2.below b4 h2.lt, h3.below b4 h3.lt, q4⟩)
  have hG : B3 < G0 := Nat.lt_of_lt_of_le HB3.out.2.2.2.lt hG0
  have HG0 := Lib.hid (And.intro hk0 (And.intro hK0 hG))
  clear c0 c1 c2 q3 hk0 hK0 hG hG0 b4 HN3 HB3
  obtain ⟨c0, c1, c2⟩ := map3 q4
  have HR4 := Lib.hid (HRl.out w4 _ _ S1.out S2.out)
  have HB3' := Lib.hid q4.lt
  clear HRl
  go_upto_if 30 with fail
  go_cut [10] from 31 to 34 (fun s10 wx => ∃ w9, w9 = wx ∧ ∃ (G : Nat) (K : World → Prop) (cv pv : Value), s10 = .pointer (some ⟨G, 0, none⟩) ∧ KG K G m mm sz cv pv ∧ K w9 ∧ Below w4.heap.size w4 w9 ∧ B3 < G)
  case first =>
    cases real
    · go_wp2_with fail
      go_meet
      exact ⟨_, rfl, G0, K0, cv0, pv0, rfl, HG0.out.1, HG0.out.2.1, Below.refl _ _, HG0.out.2.2⟩
    · go_wp2_with (go_at_call 9; (with_reducible refine HR4.out.mono ?_); rintro e w5 ⟨G1, K1, cv1, pv1, rfl, hk1, hK1, b5, hG1⟩)
      go_meet
      exact ⟨_, rfl, G1, K1, cv1, pv1, rfl, hk1, hK1, b5, Nat.lt_of_lt_of_le HB3'.out hG1⟩
  case rest =>
    obtain ⟨wx, rfl, G, K, cv, pv, rfl, hK, hKw, b5, hG⟩ := hcut
    obtain ⟨dcs, hdcs⟩ : ∃ dcs : Array Value, dcs = #[.int .u8 (n0 : Int), .int .u8 (n1 : Int), .int .u8 (n2 : Int), .slice ha hn hc, .slice fa fn fc] := ⟨_, rfl⟩
    obtain ⟨rcs, hrcs⟩ : ∃ rcs : Array Value, rcs = #[.int .i64 rt, .int .i64 ro, .int .i64 rn] := ⟨_, rfl⟩
    have HDC := Lib.hid (And.intro hdcs hrcs)
    have HS5 := Lib.hid (show GbS K w B0 Br B3 m dcs rcs wx from by
      rw [hdcs, hrcs]
      obtain ⟨h1, h2, h3, h4⟩ := HB4.out
      exact ⟨hKw, h4.below b5 h4.lt, h2.below b5 h2.lt, h3.below b5 h3.lt, h1.trans (b5.mono h1.size)⟩)
    replace S1 := Lib.hid (S1.out.below b5)
    replace S2 := Lib.hid (S2.out.below b5)
    have HKG := Lib.hid hK
    have HGl := Lib.hid hG
    clear hdcs hrcs hK hKw b5 hG HB4 HG0 HR4 HB3' c0 c1 c2 q4
    go_upto_region 7 with (go_at_call 10; (with_reducible refine (HW.out _).mono ?_); rintro e w6 ⟨rfl, b6⟩)
    have HS6 := Lib.hid (HS5.out.below HKG.out b6)
    replace S1 := Lib.hid (S1.out.below b6)
    replace S2 := Lib.hid (S2.out.below b6)
    have HRC := Lib.hid (HRC0.out w6 ah nh ch fa kf fc S1.out S2.out HNH.out.symm HFL.out.symm)
    clear b6
    obtain ⟨c0, c1, c2⟩ := map3 HS6.out.mB
    clear HS5
    go_upto_region 8 with (go_at_call 11; (with_reducible refine HRC.out.mono ?_); rintro e w7 ⟨S, rfl, hS7, hSl, b7⟩)
    have HS7 := Lib.hid (HS6.out.below HKG.out b7)
    have HGS := Lib.hid (show G < S from Nat.lt_of_lt_of_le (HKG.out.lt HS6.out.k) hSl)
    have HW7 := Lib.hid hS7
    have HAll := Lib.hid (HKG.out.all HS7.out.k)
    clear c0 c1 c2 HRC hS7 hSl b7
    obtain ⟨g0, g1, g2, g3, g4⟩ := HKG.out.cell HS7.out.k
    go_upto_region 9 with (go_at_call 12; (with_reducible refine HAll.out.mono ?_); rintro e w8 ⟨g, cap, rfl, hg8, hgl, b8⟩)
    have HR8 := Lib.hid (show GbR K w B0 Br B3 m dcs rcs S g L2 mm w8 from ⟨HS7.out.below HKG.out b8, HW7.out.below b8 HW7.out.lt, hg8⟩)
    have HGg := Lib.hid (show G < g from Nat.lt_of_lt_of_le (HKG.out.lt HS7.out.k) hgl)
    clear g0 g1 g2 g3 g4 HAll HW7 HS7 hg8 hgl b8
    clear HS6
    have bd := bdrewP w8
    have HR8d := Lib.hid (HR8.out.below HKG.out bd)
    have HFr := Lib.hid (HKG.out.free HR8d.out.s.k)
    go_region_held3 (fun V => V.cell? ⟨G, 0, none⟩ = some (.int .i64 (m.t : Int)) ∧ V.cell? ⟨G, 1, none⟩ = some (.int .i64 (m.o : Int)) ∧ V.cell? ⟨G, 2, none⟩ = some (.int .i64 (m.n : Int)) ∧ V.cell? ⟨G, 3, none⟩ = some cv ∧ V.cell? ⟨G, 4, none⟩ = some pv ∧ V.cell? ⟨B3, 0, none⟩ = some (.int .i64 (m.t : Int)) ∧ V.cell? ⟨B3, 1, none⟩ = some (.int .i64 (m.o : Int)) ∧ V.cell? ⟨B3, 2, none⟩ = some (.int .i64 (m.n : Int))) (first | exact HR8d.out.c HKG.out | exact HR9.c HKG.out) (
      (go_at_call 13; (with_reducible refine HFr.out.mono ?_); rintro e w9 ⟨af, cf, rfl, b9⟩; have HR9 := HR8d.out.below HKG.out b9))
    replace HR9 := Lib.hid HR9
    clear HFr b9 HR8 HR8d bd
    have bd9 := bdrewP w9
    have HR9d := Lib.hid (HR9.out.below HKG.out bd9)
    have HPl := Lib.hid (HKG.out.plen HR9d.out.s.k)
    have HEv := Lib.hid (HKG.out.ev HR9d.out.s.k)
    have hqm := hq_map (m.t : Int) (m.o : Int) (m.n : Int)
    have HNe := Lib.hid (show B0 ≠ G ∧ Br ≠ G ∧ B3 ≠ G ∧ w.heap.size ≤ G ∧ S ≠ G ∧ g ≠ G from by
      have h1 := HBB.out
      have h2 := HGl.out
      have h3 := HGS.out
      have h4 := HGg.out
      exact ⟨by omega, by omega, by omega, by omega, by omega, by omega⟩)
    go_upto_region 10 with fail
    go_region_held3 (fun V => V.cell? ⟨G, 0, none⟩ = some (.int .i64 (m.t : Int)) ∧ V.cell? ⟨G, 1, none⟩ = some (.int .i64 (m.o : Int)) ∧ V.cell? ⟨G, 2, none⟩ = some (.int .i64 (m.n : Int)) ∧ V.cell? ⟨G, 3, none⟩ = some cv ∧ V.cell? ⟨G, 4, none⟩ = some pv ∧ V.cell? ⟨B3, 0, none⟩ = some (.int .i64 (m.t : Int)) ∧ V.cell? ⟨B3, 1, none⟩ = some (.int .i64 (m.o : Int)) ∧ V.cell? ⟨B3, 2, none⟩ = some (.int .i64 (m.n : Int))) (first | exact HR9d.out.c HKG.out | exact hRA.c HKG.out) (first
      | (go_at_call 14; (with_reducible refine HPl.out.mono ?_); rintro e wp ⟨rfl, rfl⟩)
      | (go_at_call 15; (with_reducible refine HEv.out.mono ?_); rintro e wA ⟨ae, ce, rfl, hkA, kpA⟩; have hRA := HR9d.out.ev hkA kpA HNe.out.1 HNe.out.2.1 HNe.out.2.2.1 HNe.out.2.2.2.1 HNe.out.2.2.2.2.1 HNe.out.2.2.2.2.2))
    have HRA := Lib.hid hRA
    clear hRA HPl HEv hqm HR9d bd9 HR9 hkA kpA
    have HHd := Lib.hid fun V => head_any m V
    go_upto_region 13 with fail
    go_loopw [14] (fun v14 wr => ∃ i : Nat, i ≤ sz ∧ v14 = .int .i64 (i : Int) ∧ GbR K w B0 Br B3 m dcs rcs S g L2 mm wr) (fun v14 _ => sz - (intOf v14).toNat)
    case atStart => exact ⟨0, by omega, rfl, HRA.out⟩
    case round =>
      clear HRA
      obtain ⟨i, hi, rfl, hR⟩ := hrel
      have HRi := Lib.hid hR
      obtain ⟨c0, c1, c2⟩ := map3 hR.s.mB
      clear hR
      have hszb := HSZ.out.1
      by_cases hlt : i < sz
      · have hltI : (i : Int) < (sz : Int) := by omega
        go_upto_region 16 with (go_at_call 16; (with_reducible refine (HHd.out _).mono ?_); rintro e w1 ⟨rfl, b1'⟩)
        have HR1 := Lib.hid (HRi.out.below HKG.out b1')
        clear c0 c1 c2 b1' HRi
        go_upto_region 17 with fail
        go_loopw [15, 16] (fun v15 v16 wr => ∃ (j : Nat) (bb : Bool), j ≤ m.n ∧ v16 = .int .i64 (j : Int) ∧ v15 = .bool bb ∧ (bb = false → i ≠ 1 ∧ ∀ k : Int, 0 ≤ k → k < (j : Int) → i ≠ linkN m k) ∧ GbR K w B0 Br B3 m dcs rcs S g L2 mm wr) (fun _ v16 _ => m.n - (intOf v16).toNat)
        case atStart => exact ⟨0, _, by omega, rfl, rfl, fun h => ⟨fun e => by subst e; simp at h, fun k h1 h2 => by omega⟩, HR1.out⟩
        case round =>
          clear HR1
          obtain ⟨j, bb, hj, rfl, rfl, hbb, hR⟩ := hrel
          have HBBj := Lib.hid hbb
          have HRj := Lib.hid hR
          obtain ⟨c0, c1, c2⟩ := map3 hR.s.mB
          clear hR hbb
          have hmn := HMT.out.2.2
          by_cases hjl : j < m.n
          · have hjI : (j : Int) < (m.n : Int) := by omega
            cases bb with
            | true =>
              go_wp2_with fail
              go_roundw
              case rel => exact ⟨j + 1, true, by omega, by go_num, (by first | rfl | trivial), (fun h => by cases h), HRj.out⟩
              case measure => simp [intOf]; omega
            | false =>
              have HB1 := Lib.hid (HBBj.out rfl)
              clear HBBj
              have HLk := Lib.hid fun V => link_any m (j : Int) V HOK.out (by omega)
              obtain ⟨ln, hln⟩ : ∃ ln : Nat, ln = linkN m (j : Int) := ⟨_, rfl⟩
              rw [← hln] at HLk
              have HLN := Lib.hid hln
              clear hln
              by_cases e : i = ln
              · have eb : ((i : Int) == (ln : Int)) = true := beq_iff_eq.2 (by omega)
                clear e
                go_wp2_with (go_at_call 17; (with_reducible refine (HLk.out _).mono ?_); rintro e1 w2 ⟨rfl, b2'⟩)
                go_roundw
                case rel => exact ⟨j + 1, true, by omega, by go_num, (by first | rfl | trivial), (fun h => by cases h), HRj.out.below HKG.out b2'⟩
                case measure => simp [intOf]; omega
              · have eb : ((i : Int) == (ln : Int)) = false := beq_eq_false_iff_ne.2 (by omega)
                have E := Lib.hid e
                clear e
                go_wp2_with (go_at_call 17; (with_reducible refine (HLk.out _).mono ?_); rintro e1 w2 ⟨rfl, b2'⟩)
                go_roundw
                case rel =>
                  refine ⟨j + 1, false, by omega, by go_num, (by first | rfl | trivial), fun _ => ⟨HB1.out.1, fun k h1 h2 => ?_⟩, HRj.out.below HKG.out b2'⟩
                  by_cases ek : k = (j : Int)
                  · rw [ek, ← HLN.out]; exact E.out
                  · exact HB1.out.2 k h1 (by omega)
                case measure => simp [intOf]; omega
          · obtain rfl : j = m.n := by omega
            have hjn : ¬ (m.n : Int) < (m.n : Int) := by omega
            cases bb with
            | true =>
              go_upto_region 20 with fail
              go_quiet (fail)
              go_wp2_with fail
              go_roundw
              case rel => exact ⟨i + 1, by omega, by go_num, HRj.out.below HKG.out ⟨rfl, rfl, rfl, Nat.le_refl _, fun _ _ => rfl⟩⟩
              case measure => simp [intOf]; omega
            | false =>
              obtain ⟨c, hcL⟩ : ∃ c, L2[i]? = some c := ⟨_, List.getElem?_eq_getElem (by rw [HSZ.out.2]; exact hlt)⟩
              have hcm := HAG.out i c hcL (HBBj.out rfl).1 (fun k h1 h2 => (HBBj.out rfl).2 k h1 h2)
              have eg := HRj.out.got i c hcm
              have eS := HRj.out.want.cell i (.int .u64 c) (by simp [words, hcL])
              have ig := bidx_u64 sz cap g i hlt
              have iS := bidx_u64 sz sz S i hlt
              clear hcL hcm
              go_upto_region 20 with fail
              go_quiet (fail)
              go_wp2_with fail
              go_roundw
              case rel => exact ⟨i + 1, by omega, by go_num, HRj.out.below HKG.out ⟨rfl, rfl, rfl, Nat.le_refl _, fun _ _ => rfl⟩⟩
              case measure => simp [intOf]; omega
      · have HIS := Lib.hid (show i = sz from by omega)
        clear c0 c1 c2
        go_upto_region 23 with fail
        have HRz := Lib.hid (HRi.out)
        clear HRi HAG HHd
        go_loopw [17] (fun v17 wr => ∃ o : Int, -1 ≤ o ∧ o ≤ (m.o : Int) + 1 ∧ v17 = .int .i64 o ∧ GbR K w B0 Br B3 m dcs rcs S g L2 mm wr) (fun v17 _ => ((m.o : Int) + 1 - intOf v17).toNat)
        case atStart => exact ⟨-1, by omega, by omega, rfl, HRz.out⟩
        case round =>
          clear HRz
          obtain ⟨o, ho1, ho2, rfl, hR⟩ := hrel
          have HRo := Lib.hid hR
          obtain ⟨c0, c1, c2⟩ := map3 hR.s.mB
          clear hR
          have hmo := HMT.out.2.1
          by_cases hle : o ≤ (m.o : Int)
          · have HV := Lib.hid (show ∀ V, Below wr.heap.size wr V → Calls Tryz.prog 19 #[.pointer (some ⟨G, 0, none⟩), .int .i64 o] V fun e w' => e = .returned (viewV (-1) 0 (.slice none 0 0)) ∧ Below V.heap.size V w' from fun V hV => by
              have hk := (HRo.out.below HKG.out hV).s.k
              by_cases h : 0 ≤ o ∧ o < (m.o : Int)
              · obtain ⟨o', rfl⟩ := Int.eq_ofNat_of_zero_le h.1
                exact HKG.out.vin hk o' (by omega)
              · exact HKG.out.vout hk o (by omega))
            have HRV := Lib.hid (show ∀ V, Below wr.heap.size wr V → Calls Tryz.prog 20 #[mapV m, .slice (some ⟨S, 0, none⟩) sz sz, .int .i64 o] V fun e w' => e = .returned (viewV (-1) 0 (.slice none 0 0)) ∧ Below V.heap.size V w' from fun V hV => by
              have hs := (HRo.out.below HKG.out hV).want
              by_cases h : 0 ≤ o ∧ o < (m.o : Int)
              · obtain ⟨o', rfl⟩ := Int.eq_ofNat_of_zero_le h.1
                exact HRV0.out V S o' (by omega) hs
              · exact rview13_out m _ o V (by omega))
            have HSm := Lib.hid fun V => same13 (-1) 0 (.slice none 0 0) (.slice none 0 0) [] V (nil_slice V) (nil_slice V) (by simp)
            have SK := Lib.hid (show ∀ V, Below wr.heap.size wr V → V.cell? ⟨B3, 0, none⟩ = some (.int .i64 (m.t : Int)) ∧ V.cell? ⟨B3, 1, none⟩ = some (.int .i64 (m.o : Int)) ∧ V.cell? ⟨B3, 2, none⟩ = some (.int .i64 (m.n : Int)) from fun V hV => map3 (HRo.out.below HKG.out hV).s.mB)
            go_upto_region 25 with fail
            have bc := bdrewP wr
            go_region_held3 (fun V => V.cell? ⟨B3, 0, none⟩ = some (.int .i64 (m.t : Int)) ∧ V.cell? ⟨B3, 1, none⟩ = some (.int .i64 (m.o : Int)) ∧ V.cell? ⟨B3, 2, none⟩ = some (.int .i64 (m.n : Int))) (exact SK.out _ bc) (first
              | (go_at_call 19; (with_reducible refine (HV.out _ bc).mono ?_); rintro e wv ⟨rfl, bv⟩; replace bc := Below.trans bc (Below.mono bv bc.size))
              | (go_at_call 20; (with_reducible refine (HRV.out _ bc).mono ?_); rintro e wv ⟨rfl, bv⟩; replace bc := Below.trans bc (Below.mono bv bc.size))
              | (go_at_call 18; (with_reducible refine (HSm.out _).mono ?_); rintro e ws ⟨rfl, bs⟩; replace bc := Below.trans bc (Below.mono bs bc.size)))
            go_wp2_with fail
            go_roundw
            case rel => exact ⟨o + 1, by omega, by omega, by go_num, HRo.out.below HKG.out bc⟩
            case measure => simp [intOf]; omega
          · clear HRV0
            obtain ⟨hdc, hrc⟩ := HDC.out
            have dB := HRo.out.s.dB
            have rB := HRo.out.s.rB
            rw [hdc] at dB
            rw [hrc] at rB
            have HRaw := Lib.hid (And.intro dB rB)
            have r0 := rB.cell 0 _ rfl
            have r1 := rB.cell 1 _ rfl
            have r2 := rB.cell 2 _ rfl
            have bwr := Lib.hid HRo.out.s.bw
            obtain ⟨t9, ht9⟩ : ∃ z, rt.tmod 9 = z := ⟨_, rfl⟩
            obtain ⟨o9, ho9⟩ : ∃ z, ro.tmod 9 = z := ⟨_, rfl⟩
            obtain ⟨n9, hn9⟩ : ∃ z, rn.tmod 9 = z := ⟨_, rfl⟩
            have H9 := Lib.hid (show t9 < 100 ∧ o9 < 100 ∧ n9 < 100 from by
              have a1 := Int.tmod_lt_of_pos rt (show (0 : Int) < 9 by omega)
              have a2 := Int.tmod_lt_of_pos ro (show (0 : Int) < 9 by omega)
              have a3 := Int.tmod_lt_of_pos rn (show (0 : Int) < 9 by omega)
              omega)
            clear dB rB hdc hrc
            go_upto_region 28 with fail
            have HB9 := Lib.hid (bwr.out)
            have kz : ∃ k : Nat, k = min hn 8 := ⟨_, rfl⟩
            obtain ⟨k8, hk8⟩ := kz
            generalize hW : wr.alloc _ = wz
            have bz : Below wr.heap.size wr wz := by rw [← hW]; go_grown
            have sm : Blk wz wr.heap.size 28 #[.int .i64 t9, .int .i64 o9, .int .i64 n9] := by rw [← hW]; exact Blk.new wr _ _
            have dz := HRaw.out.1.below bz HRaw.out.1.lt
            have rz := HRaw.out.2.below bz HRaw.out.2.lt
            have bwz := bwr.out.trans (bz.mono bwr.out.size)
            obtain ⟨Bs, hBs⟩ : ∃ Bs, Bs = wr.heap.size := ⟨_, rfl⟩
            rw [← hBs] at sm ⊢
            have hsl : SliceAt intE wz (.slice ha k8 hc) H := SlN.at (c := hc) (SlN.below (enc := intE) HHH.out.1 bwz) (HHH.out.2.trans hk8.symm)
            have HSl := Lib.hid hsl
            have d3 := dz.cell 3 _ rfl
            have hmin : min (hn : Int) 8 = (k8 : Int) := by omega
            obtain ⟨hhc, hn3⟩ := HNN.out
            have hk0 : (0 : Int) ≤ (k8 : Int) := by omega
            have hk1 : (k8 : Int) ≤ (hc : Int) := by omega
            have hkc : k8 ≤ hc := by omega
            have hlk : H.length ≤ 100000 := by rw [HHH.out.2]; omega
            have HLK := Lib.hid hlk
            clear hW r0 r1 r2 c0 c1 c2 HRaw hBs hsl bwr dz hk8 hlk
            have SK := Lib.hid (show ∀ V, Below wz.heap.size wz V → V.cell? ⟨Bs, 0, none⟩ = some (.int .i64 t9) ∧ V.cell? ⟨Bs, 1, none⟩ = some (.int .i64 o9) ∧ V.cell? ⟨Bs, 2, none⟩ = some (.int .i64 n9) ∧ V.cell? ⟨Br, 0, none⟩ = some (.int .i64 rt) ∧ V.cell? ⟨Br, 1, none⟩ = some (.int .i64 ro) ∧ V.cell? ⟨Br, 2, none⟩ = some (.int .i64 rn) from fun V hV => by
              have s' := sm.below hV sm.lt
              have r' := rz.below hV rz.lt
              exact ⟨s'.cell 0 _ rfl, s'.cell 1 _ rfl, s'.cell 2 _ rfl, r'.cell 0 _ rfl, r'.cell 1 _ rfl, r'.cell 2 _ rfl⟩)
            have HNew := Lib.hid fun V (hV : Below wz.heap.size wz V) => small_any t9 o9 n9 (.slice ha k8 hc) H V (HSl.out.below hV) H9.out
            have HRgt := Lib.hid fun V (hV : Below wz.heap.size wz V) => rright13_any t9 o9 n9 (.slice ha k8 hc) H V (HSl.out.below hV) HLK.out
            have HRr := Lib.hid fun V => right_any rt ro rn V
            have HN0 := Lib.hid fun V => gnew_no (.slice none 0 0) (.slice none 0 0) rt ro rn V
            have HR0 := Lib.hid fun V => greal_no (.slice none 0 0) (.slice none 0 0) rt ro rn V
            have HBZ := Lib.hid bwz
            clear sm rz bz bwz HSl
            go_upto_region 29 with fail
            clear d3 hmin hk0 hk1 hkc hhc hn3
            have bd := bdrewP wz
            have HEND : ∀ V, Below wz.heap.size wz V → Below w.heap.size w V := fun V hV => HBZ.out.trans (hV.mono HBZ.out.size)
            by_cases hP : HeadsOk o9 H ∧ rightS t9 o9 n9 = true
            · have HNy := Lib.hid (show ∀ V, Below wz.heap.size wz V → Calls Tryz.prog 8 #[.agg #[.int .i64 t9, .int .i64 o9, .int .i64 n9], .slice ha k8 hc, .slice none 0 0] V fun e w' => (∃ a, e = .returned (.pointer (some a))) ∧ Below V.heap.size V w' from fun V hV => by
                refine (HNew.out V hV).mono ?_
                rintro e w' ⟨hb, ⟨a, rfl, _, _⟩ | ⟨_, hn⟩⟩
                · exact ⟨⟨a, rfl⟩, hb⟩
                · exact absurd hP hn)
              have HRy := Lib.hid (show ∀ V, Below wz.heap.size wz V → Calls Tryz.prog 21 #[.agg #[.int .i64 t9, .int .i64 o9, .int .i64 n9], .slice ha k8 hc] V fun e w' => e = .returned (.bool true) ∧ Below V.heap.size V w' from fun V hV => by
                refine (HRgt.out V hV).mono ?_
                rintro e w' ⟨⟨b, rfl, hb⟩, hb2⟩
                obtain rfl := hb.2 hP
                exact ⟨rfl, hb2⟩)
              clear HNew HRgt hP
              cases hr : rightS rt ro rn with
              | true =>
                rw [hr] at HRr
                clear hr  HN0 HR0
                have bc := bd
                refine wp_region_held_drew (S := (fun V => V.cell? ⟨Bs, 0, none⟩ = some (.int .i64 t9) ∧ V.cell? ⟨Bs, 1, none⟩ = some (.int .i64 o9) ∧ V.cell? ⟨Bs, 2, none⟩ = some (.int .i64 n9) ∧ V.cell? ⟨Br, 0, none⟩ = some (.int .i64 rt) ∧ V.cell? ⟨Br, 1, none⟩ = some (.int .i64 ro) ∧ V.cell? ⟨Br, 2, none⟩ = some (.int .i64 rn))) (by kernel_rfl) (SK.out _ bc) (fun hHeld => ?_)
                refine wpAnyH_take (i := 0) (oi := { dst := some 161, op := Op.load 28 (Operand.tmp 18), type := 28, pos := "law.go:62", after := #[], guard := none }) (v := ?_) rfl (by kernel_rfl) (by kernel_rfl) (by kernel_rfl) (fun _ _ _ h => h) (Or.inl ⟨by rfl, ?_⟩) (by assumption) ?_
                rotate_left
                · intro w hSw; (try dsimp only at hSw); go_simp; try with_reducible rfl
                (try simp only [Act.put, List.setIfInBounds_toArray, List.set_cons_zero, List.set_cons_succ])
                refine wpAnyH_take (i := 1) (oi := { dst := some 162, op := Op.move (Operand.tmp 19), type := 23, pos := "law.go:62", after := #[], guard := none }) (v := ?_) rfl (by kernel_rfl) (by kernel_rfl) (by kernel_rfl) (fun _ _ _ h => h) (Or.inl ⟨by rfl, ?_⟩) (by assumption) ?_
                rotate_left
                · intro w hSw; (try dsimp only at hSw); go_simp; try with_reducible rfl
                (try simp only [Act.put, List.setIfInBounds_toArray, List.set_cons_zero, List.set_cons_succ])
                refine wpAnyH_take (i := 4) (oi := { dst := some 165, op := Op.load 28 (Operand.tmp 18), type := 28, pos := "law.go:62", after := #[], guard := none }) (v := ?_) rfl (by kernel_rfl) (by kernel_rfl) (by kernel_rfl) (fun _ _ _ h => h) (Or.inl ⟨by rfl, ?_⟩) (by assumption) ?_
                rotate_left
                · intro w hSw; (try dsimp only at hSw); go_simp; try with_reducible rfl
                (try simp only [Act.put, List.setIfInBounds_toArray, List.set_cons_zero, List.set_cons_succ])
                refine wpAnyH_take (i := 5) (oi := { dst := some 166, op := Op.move (Operand.tmp 19), type := 23, pos := "law.go:62", after := #[], guard := none }) (v := ?_) rfl (by kernel_rfl) (by kernel_rfl) (by kernel_rfl) (fun _ _ _ h => h) (Or.inl ⟨by rfl, ?_⟩) (by assumption) ?_
                rotate_left
                · intro w hSw; (try dsimp only at hSw); go_simp; try with_reducible rfl
                (try simp only [Act.put, List.setIfInBounds_toArray, List.set_cons_zero, List.set_cons_succ])
                refine wpAnyH_ready (rs := [2]) (by kernel_rfl) (by simp) ?_
                refine AllReadyH.cons rfl (fun K hK => ?_) AllReadyH.nil
                go_simp
                (with_reducible refine (HNy.out _ bc).mono ?_)
                rintro e wa ⟨⟨pa, rfl⟩, ba⟩
                replace bc := Below.trans bc (Below.mono ba bc.size)
                go_wp2_with fail
                refine hK.out _ _ (SK.out _ bc) (fun hHeld => ?_)
                clear hK K
                (try dsimp only [Act.put]); (try simp only [Act.put, List.setIfInBounds_toArray, List.set_cons_zero, List.set_cons_succ])
                refine wpAnyH_take (i := 3) (oi := { dst := some 164, op := Op.binOp BinOp.neq 31 (Operand.tmp 163) (Operand.const (Value.pointer none)) 31, type := 4, pos := "law.go:62", after := #[{ on := 2, ground := Ground.data }], guard := none }) (v := ?_) rfl (by kernel_rfl) (by kernel_rfl) (by kernel_rfl) (fun _ _ _ h => h) (Or.inl ⟨by rfl, ?_⟩) (by assumption) ?_
                rotate_left
                · intro w hSw; (try dsimp only at hSw); go_simp; try with_reducible rfl
                (try simp only [Act.put, List.setIfInBounds_toArray, List.set_cons_zero, List.set_cons_succ])
                refine wpAnyH_ready (rs := [6]) (by kernel_rfl) (by simp) ?_
                refine AllReadyH.cons rfl (fun K hK => ?_) AllReadyH.nil
                go_simp
                (with_reducible refine (HRy.out _ bc).mono ?_)
                rintro e wb ⟨rfl, bb⟩
                replace bc := Below.trans bc (Below.mono bb bc.size)
                go_wp2_with fail
                refine hK.out _ _ (SK.out _ bc) (fun hHeld => ?_)
                clear hK K
                (try dsimp only [Act.put]); (try simp only [Act.put, List.setIfInBounds_toArray, List.set_cons_zero, List.set_cons_succ])
                refine wpAnyH_take (i := 7) (oi := { dst := some 168, op := Op.binOp BinOp.eql 4 (Operand.tmp 164) (Operand.tmp 167) 4, type := 4, pos := "law.go:62", after := #[{ on := 3, ground := Ground.data }, { on := 6, ground := Ground.data }], guard := none }) (v := ?_) rfl (by kernel_rfl) (by kernel_rfl) (by kernel_rfl) (fun _ _ _ h => h) (Or.inl ⟨by rfl, ?_⟩) (by assumption) ?_
                rotate_left
                · intro w hSw; (try dsimp only at hSw); go_simp; try with_reducible rfl
                (try simp only [Act.put, List.setIfInBounds_toArray, List.set_cons_zero, List.set_cons_succ])
                refine wpAnyH_take (i := 8) (oi := { dst := some 169, op := Op.move (Operand.tmp 168), type := 4, pos := "law.go:62", after := #[{ on := 7, ground := Ground.data }, { on := 6, ground := Ground.chain }], guard := none }) (v := ?_) rfl (by kernel_rfl) (by kernel_rfl) (by kernel_rfl) (fun _ _ _ h => h) (Or.inl ⟨by rfl, ?_⟩) (by assumption) ?_
                rotate_left
                · intro w hSw; (try dsimp only at hSw); go_simp; try with_reducible rfl
                (try simp only [Act.put, List.setIfInBounds_toArray, List.set_cons_zero, List.set_cons_succ])
                refine wpAnyH_take (i := 9) (oi := { dst := some 170, op := Op.load 28 (Operand.tmp 4), type := 28, pos := "law.go:62", after := #[{ on := 8, ground := Ground.guard }], guard := some (8, true) }) (v := ?_) rfl (by kernel_rfl) (by kernel_rfl) (by kernel_rfl) (fun _ _ _ h => h) (Or.inl ⟨by rfl, ?_⟩) (by assumption) ?_
                rotate_left
                · intro w hSw; (try dsimp only at hSw); go_simp; try with_reducible rfl
                (try simp only [Act.put, List.setIfInBounds_toArray, List.set_cons_zero, List.set_cons_succ])
                refine wpAnyH_ready (rs := [10]) (by kernel_rfl) (by simp) ?_
                refine AllReadyH.cons rfl (fun K hK => ?_) AllReadyH.nil
                go_simp
                (with_reducible refine (HRr.out _).mono ?_)
                rintro e wc ⟨rfl, bcc⟩
                replace bc := Below.trans bc (Below.mono bcc bc.size)
                go_wp2_with fail
                refine hK.out _ _ (SK.out _ bc) (fun hHeld => ?_)
                clear hK K
                (try dsimp only [Act.put]); (try simp only [Act.put, List.setIfInBounds_toArray, List.set_cons_zero, List.set_cons_succ])
                refine wpAnyH_take (i := 11) (oi := { dst := some 172, op := Op.move (Operand.tmp 171), type := 4, pos := "law.go:62", after := #[{ on := 10, ground := Ground.data }, { on := 10, ground := Ground.chain }, { on := 8, ground := Ground.guard }], guard := some (8, true) }) (v := ?_) rfl (by kernel_rfl) (by kernel_rfl) (by kernel_rfl) (fun _ _ _ h => h) (Or.inl ⟨by rfl, ?_⟩) (by assumption) ?_
                rotate_left
                · intro w hSw; (try dsimp only at hSw); go_simp; try with_reducible rfl
                (try simp only [Act.put, List.setIfInBounds_toArray, List.set_cons_zero, List.set_cons_succ])
                refine wpAnyH_take (i := 12) (oi := { dst := some 173, op := Op.load 28 (Operand.tmp 4), type := 28, pos := "law.go:62", after := #[{ on := 11, ground := Ground.guard }], guard := some (11, false) }) (v := undef) rfl (by kernel_rfl) (by kernel_rfl) (by kernel_rfl) (fun _ _ _ h => h) (Or.inr ⟨by rfl, rfl⟩) (by assumption) ?_
                (try simp only [Act.put, List.setIfInBounds_toArray, List.set_cons_zero, List.set_cons_succ])
                refine wpAnyH_take (i := 13) (oi := { dst := some 174, op := Op.call { callee := Callee.value (Operand.func 8), args := #[Operand.tmp 173, Operand.const (Value.slice none 0 0), Operand.const (Value.slice none 0 0)], argTypes := #[28, 23, 24] }, type := 31, pos := "law.go:62", after := #[{ on := 12, ground := Ground.data }, { on := 11, ground := Ground.chain }, { on := 11, ground := Ground.guard }], guard := some (11, false) }) (v := undef) rfl (by kernel_rfl) (by kernel_rfl) (by kernel_rfl) (fun _ _ _ h => h) (Or.inr ⟨by rfl, rfl⟩) (by assumption) ?_
                (try simp only [Act.put, List.setIfInBounds_toArray, List.set_cons_zero, List.set_cons_succ])
                refine wpAnyH_take (i := 14) (oi := { dst := some 175, op := Op.binOp BinOp.eql 31 (Operand.tmp 174) (Operand.const (Value.pointer none)) 31, type := 4, pos := "law.go:62", after := #[{ on := 13, ground := Ground.data }, { on := 11, ground := Ground.guard }], guard := some (11, false) }) (v := undef) rfl (by kernel_rfl) (by kernel_rfl) (by kernel_rfl) (fun _ _ _ h => h) (Or.inr ⟨by rfl, rfl⟩) (by assumption) ?_
                (try simp only [Act.put, List.setIfInBounds_toArray, List.set_cons_zero, List.set_cons_succ])
                refine wpAnyH_take (i := 15) (oi := { dst := some 176, op := Op.move (Operand.tmp 175), type := 4, pos := "law.go:62", after := #[{ on := 14, ground := Ground.data }, { on := 13, ground := Ground.chain }, { on := 11, ground := Ground.guard }], guard := some (11, false) }) (v := undef) rfl (by kernel_rfl) (by kernel_rfl) (by kernel_rfl) (fun _ _ _ h => h) (Or.inr ⟨by rfl, rfl⟩) (by assumption) ?_
                (try simp only [Act.put, List.setIfInBounds_toArray, List.set_cons_zero, List.set_cons_succ])
                refine wpAnyH_take (i := 16) (oi := { dst := some 177, op := Op.load 28 (Operand.tmp 4), type := 28, pos := "law.go:62", after := #[{ on := 15, ground := Ground.guard }], guard := some (15, true) }) (v := undef) rfl (by kernel_rfl) (by kernel_rfl) (by kernel_rfl) (fun _ _ _ h => h) (Or.inr ⟨by rfl, rfl⟩) (by assumption) ?_
                (try simp only [Act.put, List.setIfInBounds_toArray, List.set_cons_zero, List.set_cons_succ])
                refine wpAnyH_take (i := 17) (oi := { dst := some 178, op := Op.call { callee := Callee.value (Operand.func 9), args := #[Operand.tmp 177, Operand.const (Value.slice none 0 0), Operand.const (Value.slice none 0 0)], argTypes := #[28, 23, 24] }, type := 31, pos := "law.go:62", after := #[{ on := 16, ground := Ground.data }, { on := 15, ground := Ground.chain }, { on := 15, ground := Ground.guard }], guard := some (15, true) }) (v := undef) rfl (by kernel_rfl) (by kernel_rfl) (by kernel_rfl) (fun _ _ _ h => h) (Or.inr ⟨by rfl, rfl⟩) (by assumption) ?_
                (try simp only [Act.put, List.setIfInBounds_toArray, List.set_cons_zero, List.set_cons_succ])
                refine wpAnyH_take (i := 18) (oi := { dst := some 179, op := Op.binOp BinOp.eql 31 (Operand.tmp 178) (Operand.const (Value.pointer none)) 31, type := 4, pos := "law.go:62", after := #[{ on := 17, ground := Ground.data }, { on := 15, ground := Ground.guard }], guard := some (15, true) }) (v := undef) rfl (by kernel_rfl) (by kernel_rfl) (by kernel_rfl) (fun _ _ _ h => h) (Or.inr ⟨by rfl, rfl⟩) (by assumption) ?_
                (try simp only [Act.put, List.setIfInBounds_toArray, List.set_cons_zero, List.set_cons_succ])
                refine wpAnyH_take (i := 19) (oi := { dst := some 180, op := Op.pick (Operand.tmp 176) (Operand.tmp 179) (Operand.const (Value.bool false)), type := 4, pos := "law.go:62", after := #[{ on := 15, ground := Ground.data }, { on := 18, ground := Ground.data }, { on := 11, ground := Ground.guard }], guard := some (11, false) }) (v := undef) rfl (by kernel_rfl) (by kernel_rfl) (by kernel_rfl) (fun _ _ _ h => h) (Or.inr ⟨by rfl, rfl⟩) (by assumption) ?_
                (try simp only [Act.put, List.setIfInBounds_toArray, List.set_cons_zero, List.set_cons_succ])
                refine wpAnyH_take (i := 20) (oi := { dst := some 181, op := Op.pick (Operand.tmp 172) (Operand.const (Value.bool true)) (Operand.tmp 180), type := 4, pos := "law.go:62", after := #[{ on := 11, ground := Ground.data }, { on := 19, ground := Ground.data }, { on := 8, ground := Ground.guard }], guard := some (8, true) }) (v := ?_) rfl (by kernel_rfl) (by kernel_rfl) (by kernel_rfl) (fun _ _ _ h => h) (Or.inl ⟨by rfl, ?_⟩) (by assumption) ?_
                rotate_left
                · intro w hSw; (try dsimp only at hSw); go_simp; try with_reducible rfl
                (try simp only [Act.put, List.setIfInBounds_toArray, List.set_cons_zero, List.set_cons_succ])
                refine wpAnyH_take (i := 21) (oi := { dst := some 182, op := Op.pick (Operand.tmp 169) (Operand.tmp 181) (Operand.const (Value.bool false)), type := 4, pos := "law.go:62", after := #[{ on := 8, ground := Ground.data }, { on := 20, ground := Ground.data }], guard := none }) (v := ?_) rfl (by kernel_rfl) (by kernel_rfl) (by kernel_rfl) (fun _ _ _ h => h) (Or.inl ⟨by rfl, ?_⟩) (by assumption) ?_
                rotate_left
                · intro w hSw; (try dsimp only at hSw); go_simp; try with_reducible rfl
                (try simp only [Act.put, List.setIfInBounds_toArray, List.set_cons_zero, List.set_cons_succ])
                refine wpAnyH_ready (rs := [22]) (by kernel_rfl) (by simp) ?_
                refine AllReadyH.cons rfl (fun K hK => ?_) AllReadyH.nil
                go_simp
                go_wp2_with fail
                refine hK.out _ _ (by assumption) (fun hHeld => ?_)
                clear hK K
                (try dsimp only [Act.put]); (try simp only [Act.put, List.setIfInBounds_toArray, List.set_cons_zero, List.set_cons_succ])
                refine wpAnyH_done (by kernel_rfl) ?_ _
                go_wp2_with fail
                go_ret
                exact ⟨rfl, HEND _ bc⟩
              | false =>
                rw [hr] at HRr
                replace HN0 := Lib.hid fun V => HN0.out V hr
                replace HR0 := Lib.hid fun V => HR0.out V hr
                clear hr
                have bc := bd
                go_region_held3 (fun V => V.cell? ⟨Bs, 0, none⟩ = some (.int .i64 t9) ∧ V.cell? ⟨Bs, 1, none⟩ = some (.int .i64 o9) ∧ V.cell? ⟨Bs, 2, none⟩ = some (.int .i64 n9) ∧ V.cell? ⟨Br, 0, none⟩ = some (.int .i64 rt) ∧ V.cell? ⟨Br, 1, none⟩ = some (.int .i64 ro) ∧ V.cell? ⟨Br, 2, none⟩ = some (.int .i64 rn)) (exact SK.out _ bc) (first
                  | (go_at_call 8; (with_reducible refine (HNy.out _ bc).mono ?_); rintro e wa ⟨⟨pa, rfl⟩, ba⟩; replace bc := Below.trans bc (Below.mono ba bc.size))
                  | (go_at_call 8; (with_reducible refine (HN0.out _).mono ?_); rintro e wd ⟨rfl, bdd⟩; replace bc := Below.trans bc (Below.mono bdd bc.size))
                  | (go_at_call 9; (with_reducible refine (HR0.out _).mono ?_); rintro e we ⟨rfl, bee⟩; replace bc := Below.trans bc (Below.mono bee bc.size))
                  | (go_at_call 21; (with_reducible refine (HRy.out _ bc).mono ?_); rintro e wb ⟨rfl, bb⟩; replace bc := Below.trans bc (Below.mono bb bc.size))
                  | (go_at_call 22; (with_reducible refine (HRr.out _).mono ?_); rintro e wc ⟨rfl, bcc⟩; replace bc := Below.trans bc (Below.mono bcc bc.size)))
                go_wp2_with fail
                go_ret
                exact ⟨rfl, HEND _ bc⟩
            · have HNy := Lib.hid (show ∀ V, Below wz.heap.size wz V → Calls Tryz.prog 8 #[.agg #[.int .i64 t9, .int .i64 o9, .int .i64 n9], .slice ha k8 hc, .slice none 0 0] V fun e w' => e = .returned (.pointer none) ∧ Below V.heap.size V w' from fun V hV => by
                refine (HNew.out V hV).mono ?_
                rintro e w' ⟨hb, ⟨a, rfl, h1, h2⟩ | ⟨rfl, hn⟩⟩
                · exact absurd ⟨h1, h2⟩ hP
                · exact ⟨rfl, hb⟩)
              have HRy := Lib.hid (show ∀ V, Below wz.heap.size wz V → Calls Tryz.prog 21 #[.agg #[.int .i64 t9, .int .i64 o9, .int .i64 n9], .slice ha k8 hc] V fun e w' => e = .returned (.bool false) ∧ Below V.heap.size V w' from fun V hV => by
                refine (HRgt.out V hV).mono ?_
                rintro e w' ⟨⟨b, rfl, hb⟩, hb2⟩
                cases b with
                | false => exact ⟨rfl, hb2⟩
                | true => exact absurd (hb.1 rfl) hP)
              clear HNew HRgt hP
              cases hr : rightS rt ro rn with
              | true =>
                rw [hr] at HRr
                clear hr  HN0 HR0
                have bc := bd
                refine wp_region_held_drew (S := (fun V => V.cell? ⟨Bs, 0, none⟩ = some (.int .i64 t9) ∧ V.cell? ⟨Bs, 1, none⟩ = some (.int .i64 o9) ∧ V.cell? ⟨Bs, 2, none⟩ = some (.int .i64 n9) ∧ V.cell? ⟨Br, 0, none⟩ = some (.int .i64 rt) ∧ V.cell? ⟨Br, 1, none⟩ = some (.int .i64 ro) ∧ V.cell? ⟨Br, 2, none⟩ = some (.int .i64 rn))) (by kernel_rfl) (SK.out _ bc) (fun hHeld => ?_)
                refine wpAnyH_take (i := 0) (oi := { dst := some 161, op := Op.load 28 (Operand.tmp 18), type := 28, pos := "law.go:62", after := #[], guard := none }) (v := ?_) rfl (by kernel_rfl) (by kernel_rfl) (by kernel_rfl) (fun _ _ _ h => h) (Or.inl ⟨by rfl, ?_⟩) (by assumption) ?_
                rotate_left
                · intro w hSw; (try dsimp only at hSw); go_simp; try with_reducible rfl
                (try simp only [Act.put, List.setIfInBounds_toArray, List.set_cons_zero, List.set_cons_succ])
                refine wpAnyH_take (i := 1) (oi := { dst := some 162, op := Op.move (Operand.tmp 19), type := 23, pos := "law.go:62", after := #[], guard := none }) (v := ?_) rfl (by kernel_rfl) (by kernel_rfl) (by kernel_rfl) (fun _ _ _ h => h) (Or.inl ⟨by rfl, ?_⟩) (by assumption) ?_
                rotate_left
                · intro w hSw; (try dsimp only at hSw); go_simp; try with_reducible rfl
                (try simp only [Act.put, List.setIfInBounds_toArray, List.set_cons_zero, List.set_cons_succ])
                refine wpAnyH_take (i := 4) (oi := { dst := some 165, op := Op.load 28 (Operand.tmp 18), type := 28, pos := "law.go:62", after := #[], guard := none }) (v := ?_) rfl (by kernel_rfl) (by kernel_rfl) (by kernel_rfl) (fun _ _ _ h => h) (Or.inl ⟨by rfl, ?_⟩) (by assumption) ?_
                rotate_left
                · intro w hSw; (try dsimp only at hSw); go_simp; try with_reducible rfl
                (try simp only [Act.put, List.setIfInBounds_toArray, List.set_cons_zero, List.set_cons_succ])
                refine wpAnyH_take (i := 5) (oi := { dst := some 166, op := Op.move (Operand.tmp 19), type := 23, pos := "law.go:62", after := #[], guard := none }) (v := ?_) rfl (by kernel_rfl) (by kernel_rfl) (by kernel_rfl) (fun _ _ _ h => h) (Or.inl ⟨by rfl, ?_⟩) (by assumption) ?_
                rotate_left
                · intro w hSw; (try dsimp only at hSw); go_simp; try with_reducible rfl
                (try simp only [Act.put, List.setIfInBounds_toArray, List.set_cons_zero, List.set_cons_succ])
                refine wpAnyH_ready (rs := [2]) (by kernel_rfl) (by simp) ?_
                refine AllReadyH.cons rfl (fun K hK => ?_) AllReadyH.nil
                go_simp
                (with_reducible refine (HNy.out _ bc).mono ?_)
                rintro e wa ⟨rfl, ba⟩
                replace bc := Below.trans bc (Below.mono ba bc.size)
                go_wp2_with fail
                refine hK.out _ _ (SK.out _ bc) (fun hHeld => ?_)
                clear hK K
                (try dsimp only [Act.put]); (try simp only [Act.put, List.setIfInBounds_toArray, List.set_cons_zero, List.set_cons_succ])
                refine wpAnyH_take (i := 3) (oi := { dst := some 164, op := Op.binOp BinOp.neq 31 (Operand.tmp 163) (Operand.const (Value.pointer none)) 31, type := 4, pos := "law.go:62", after := #[{ on := 2, ground := Ground.data }], guard := none }) (v := ?_) rfl (by kernel_rfl) (by kernel_rfl) (by kernel_rfl) (fun _ _ _ h => h) (Or.inl ⟨by rfl, ?_⟩) (by assumption) ?_
                rotate_left
                · intro w hSw; (try dsimp only at hSw); go_simp; try with_reducible rfl
                (try simp only [Act.put, List.setIfInBounds_toArray, List.set_cons_zero, List.set_cons_succ])
                refine wpAnyH_ready (rs := [6]) (by kernel_rfl) (by simp) ?_
                refine AllReadyH.cons rfl (fun K hK => ?_) AllReadyH.nil
                go_simp
                (with_reducible refine (HRy.out _ bc).mono ?_)
                rintro e wb ⟨rfl, bb⟩
                replace bc := Below.trans bc (Below.mono bb bc.size)
                go_wp2_with fail
                refine hK.out _ _ (SK.out _ bc) (fun hHeld => ?_)
                clear hK K
                (try dsimp only [Act.put]); (try simp only [Act.put, List.setIfInBounds_toArray, List.set_cons_zero, List.set_cons_succ])
                refine wpAnyH_take (i := 7) (oi := { dst := some 168, op := Op.binOp BinOp.eql 4 (Operand.tmp 164) (Operand.tmp 167) 4, type := 4, pos := "law.go:62", after := #[{ on := 3, ground := Ground.data }, { on := 6, ground := Ground.data }], guard := none }) (v := ?_) rfl (by kernel_rfl) (by kernel_rfl) (by kernel_rfl) (fun _ _ _ h => h) (Or.inl ⟨by rfl, ?_⟩) (by assumption) ?_
                rotate_left
                · intro w hSw; (try dsimp only at hSw); go_simp; try with_reducible rfl
                (try simp only [Act.put, List.setIfInBounds_toArray, List.set_cons_zero, List.set_cons_succ])
                refine wpAnyH_take (i := 8) (oi := { dst := some 169, op := Op.move (Operand.tmp 168), type := 4, pos := "law.go:62", after := #[{ on := 7, ground := Ground.data }, { on := 6, ground := Ground.chain }], guard := none }) (v := ?_) rfl (by kernel_rfl) (by kernel_rfl) (by kernel_rfl) (fun _ _ _ h => h) (Or.inl ⟨by rfl, ?_⟩) (by assumption) ?_
                rotate_left
                · intro w hSw; (try dsimp only at hSw); go_simp; try with_reducible rfl
                (try simp only [Act.put, List.setIfInBounds_toArray, List.set_cons_zero, List.set_cons_succ])
                refine wpAnyH_take (i := 9) (oi := { dst := some 170, op := Op.load 28 (Operand.tmp 4), type := 28, pos := "law.go:62", after := #[{ on := 8, ground := Ground.guard }], guard := some (8, true) }) (v := ?_) rfl (by kernel_rfl) (by kernel_rfl) (by kernel_rfl) (fun _ _ _ h => h) (Or.inl ⟨by rfl, ?_⟩) (by assumption) ?_
                rotate_left
                · intro w hSw; (try dsimp only at hSw); go_simp; try with_reducible rfl
                (try simp only [Act.put, List.setIfInBounds_toArray, List.set_cons_zero, List.set_cons_succ])
                refine wpAnyH_ready (rs := [10]) (by kernel_rfl) (by simp) ?_
                refine AllReadyH.cons rfl (fun K hK => ?_) AllReadyH.nil
                go_simp
                (with_reducible refine (HRr.out _).mono ?_)
                rintro e wc ⟨rfl, bcc⟩
                replace bc := Below.trans bc (Below.mono bcc bc.size)
                go_wp2_with fail
                refine hK.out _ _ (SK.out _ bc) (fun hHeld => ?_)
                clear hK K
                (try dsimp only [Act.put]); (try simp only [Act.put, List.setIfInBounds_toArray, List.set_cons_zero, List.set_cons_succ])
                refine wpAnyH_take (i := 11) (oi := { dst := some 172, op := Op.move (Operand.tmp 171), type := 4, pos := "law.go:62", after := #[{ on := 10, ground := Ground.data }, { on := 10, ground := Ground.chain }, { on := 8, ground := Ground.guard }], guard := some (8, true) }) (v := ?_) rfl (by kernel_rfl) (by kernel_rfl) (by kernel_rfl) (fun _ _ _ h => h) (Or.inl ⟨by rfl, ?_⟩) (by assumption) ?_
                rotate_left
                · intro w hSw; (try dsimp only at hSw); go_simp; try with_reducible rfl
                (try simp only [Act.put, List.setIfInBounds_toArray, List.set_cons_zero, List.set_cons_succ])
                refine wpAnyH_take (i := 12) (oi := { dst := some 173, op := Op.load 28 (Operand.tmp 4), type := 28, pos := "law.go:62", after := #[{ on := 11, ground := Ground.guard }], guard := some (11, false) }) (v := undef) rfl (by kernel_rfl) (by kernel_rfl) (by kernel_rfl) (fun _ _ _ h => h) (Or.inr ⟨by rfl, rfl⟩) (by assumption) ?_
                (try simp only [Act.put, List.setIfInBounds_toArray, List.set_cons_zero, List.set_cons_succ])
                refine wpAnyH_take (i := 13) (oi := { dst := some 174, op := Op.call { callee := Callee.value (Operand.func 8), args := #[Operand.tmp 173, Operand.const (Value.slice none 0 0), Operand.const (Value.slice none 0 0)], argTypes := #[28, 23, 24] }, type := 31, pos := "law.go:62", after := #[{ on := 12, ground := Ground.data }, { on := 11, ground := Ground.chain }, { on := 11, ground := Ground.guard }], guard := some (11, false) }) (v := undef) rfl (by kernel_rfl) (by kernel_rfl) (by kernel_rfl) (fun _ _ _ h => h) (Or.inr ⟨by rfl, rfl⟩) (by assumption) ?_
                (try simp only [Act.put, List.setIfInBounds_toArray, List.set_cons_zero, List.set_cons_succ])
                refine wpAnyH_take (i := 14) (oi := { dst := some 175, op := Op.binOp BinOp.eql 31 (Operand.tmp 174) (Operand.const (Value.pointer none)) 31, type := 4, pos := "law.go:62", after := #[{ on := 13, ground := Ground.data }, { on := 11, ground := Ground.guard }], guard := some (11, false) }) (v := undef) rfl (by kernel_rfl) (by kernel_rfl) (by kernel_rfl) (fun _ _ _ h => h) (Or.inr ⟨by rfl, rfl⟩) (by assumption) ?_
                (try simp only [Act.put, List.setIfInBounds_toArray, List.set_cons_zero, List.set_cons_succ])
                refine wpAnyH_take (i := 15) (oi := { dst := some 176, op := Op.move (Operand.tmp 175), type := 4, pos := "law.go:62", after := #[{ on := 14, ground := Ground.data }, { on := 13, ground := Ground.chain }, { on := 11, ground := Ground.guard }], guard := some (11, false) }) (v := undef) rfl (by kernel_rfl) (by kernel_rfl) (by kernel_rfl) (fun _ _ _ h => h) (Or.inr ⟨by rfl, rfl⟩) (by assumption) ?_
                (try simp only [Act.put, List.setIfInBounds_toArray, List.set_cons_zero, List.set_cons_succ])
                refine wpAnyH_take (i := 16) (oi := { dst := some 177, op := Op.load 28 (Operand.tmp 4), type := 28, pos := "law.go:62", after := #[{ on := 15, ground := Ground.guard }], guard := some (15, true) }) (v := undef) rfl (by kernel_rfl) (by kernel_rfl) (by kernel_rfl) (fun _ _ _ h => h) (Or.inr ⟨by rfl, rfl⟩) (by assumption) ?_
                (try simp only [Act.put, List.setIfInBounds_toArray, List.set_cons_zero, List.set_cons_succ])
                refine wpAnyH_take (i := 17) (oi := { dst := some 178, op := Op.call { callee := Callee.value (Operand.func 9), args := #[Operand.tmp 177, Operand.const (Value.slice none 0 0), Operand.const (Value.slice none 0 0)], argTypes := #[28, 23, 24] }, type := 31, pos := "law.go:62", after := #[{ on := 16, ground := Ground.data }, { on := 15, ground := Ground.chain }, { on := 15, ground := Ground.guard }], guard := some (15, true) }) (v := undef) rfl (by kernel_rfl) (by kernel_rfl) (by kernel_rfl) (fun _ _ _ h => h) (Or.inr ⟨by rfl, rfl⟩) (by assumption) ?_
                (try simp only [Act.put, List.setIfInBounds_toArray, List.set_cons_zero, List.set_cons_succ])
                refine wpAnyH_take (i := 18) (oi := { dst := some 179, op := Op.binOp BinOp.eql 31 (Operand.tmp 178) (Operand.const (Value.pointer none)) 31, type := 4, pos := "law.go:62", after := #[{ on := 17, ground := Ground.data }, { on := 15, ground := Ground.guard }], guard := some (15, true) }) (v := undef) rfl (by kernel_rfl) (by kernel_rfl) (by kernel_rfl) (fun _ _ _ h => h) (Or.inr ⟨by rfl, rfl⟩) (by assumption) ?_
                (try simp only [Act.put, List.setIfInBounds_toArray, List.set_cons_zero, List.set_cons_succ])
                refine wpAnyH_take (i := 19) (oi := { dst := some 180, op := Op.pick (Operand.tmp 176) (Operand.tmp 179) (Operand.const (Value.bool false)), type := 4, pos := "law.go:62", after := #[{ on := 15, ground := Ground.data }, { on := 18, ground := Ground.data }, { on := 11, ground := Ground.guard }], guard := some (11, false) }) (v := undef) rfl (by kernel_rfl) (by kernel_rfl) (by kernel_rfl) (fun _ _ _ h => h) (Or.inr ⟨by rfl, rfl⟩) (by assumption) ?_
                (try simp only [Act.put, List.setIfInBounds_toArray, List.set_cons_zero, List.set_cons_succ])
                refine wpAnyH_take (i := 20) (oi := { dst := some 181, op := Op.pick (Operand.tmp 172) (Operand.const (Value.bool true)) (Operand.tmp 180), type := 4, pos := "law.go:62", after := #[{ on := 11, ground := Ground.data }, { on := 19, ground := Ground.data }, { on := 8, ground := Ground.guard }], guard := some (8, true) }) (v := ?_) rfl (by kernel_rfl) (by kernel_rfl) (by kernel_rfl) (fun _ _ _ h => h) (Or.inl ⟨by rfl, ?_⟩) (by assumption) ?_
                rotate_left
                · intro w hSw; (try dsimp only at hSw); go_simp; try with_reducible rfl
                (try simp only [Act.put, List.setIfInBounds_toArray, List.set_cons_zero, List.set_cons_succ])
                refine wpAnyH_take (i := 21) (oi := { dst := some 182, op := Op.pick (Operand.tmp 169) (Operand.tmp 181) (Operand.const (Value.bool false)), type := 4, pos := "law.go:62", after := #[{ on := 8, ground := Ground.data }, { on := 20, ground := Ground.data }], guard := none }) (v := ?_) rfl (by kernel_rfl) (by kernel_rfl) (by kernel_rfl) (fun _ _ _ h => h) (Or.inl ⟨by rfl, ?_⟩) (by assumption) ?_
                rotate_left
                · intro w hSw; (try dsimp only at hSw); go_simp; try with_reducible rfl
                (try simp only [Act.put, List.setIfInBounds_toArray, List.set_cons_zero, List.set_cons_succ])
                refine wpAnyH_ready (rs := [22]) (by kernel_rfl) (by simp) ?_
                refine AllReadyH.cons rfl (fun K hK => ?_) AllReadyH.nil
                go_simp
                go_wp2_with fail
                refine hK.out _ _ (by assumption) (fun hHeld => ?_)
                clear hK K
                (try dsimp only [Act.put]); (try simp only [Act.put, List.setIfInBounds_toArray, List.set_cons_zero, List.set_cons_succ])
                refine wpAnyH_done (by kernel_rfl) ?_ _
                go_wp2_with fail
                go_ret
                exact ⟨rfl, HEND _ bc⟩
              | false =>
                rw [hr] at HRr
                replace HN0 := Lib.hid fun V => HN0.out V hr
                replace HR0 := Lib.hid fun V => HR0.out V hr
                clear hr
                have bc := bd
                go_region_held3 (fun V => V.cell? ⟨Bs, 0, none⟩ = some (.int .i64 t9) ∧ V.cell? ⟨Bs, 1, none⟩ = some (.int .i64 o9) ∧ V.cell? ⟨Bs, 2, none⟩ = some (.int .i64 n9) ∧ V.cell? ⟨Br, 0, none⟩ = some (.int .i64 rt) ∧ V.cell? ⟨Br, 1, none⟩ = some (.int .i64 ro) ∧ V.cell? ⟨Br, 2, none⟩ = some (.int .i64 rn)) (exact SK.out _ bc) (first
                  | (go_at_call 8; (with_reducible refine (HNy.out _ bc).mono ?_); rintro e wa ⟨rfl, ba⟩; replace bc := Below.trans bc (Below.mono ba bc.size))
                  | (go_at_call 8; (with_reducible refine (HN0.out _).mono ?_); rintro e wd ⟨rfl, bdd⟩; replace bc := Below.trans bc (Below.mono bdd bc.size))
                  | (go_at_call 9; (with_reducible refine (HR0.out _).mono ?_); rintro e we ⟨rfl, bee⟩; replace bc := Below.trans bc (Below.mono bee bc.size))
                  | (go_at_call 21; (with_reducible refine (HRy.out _ bc).mono ?_); rintro e wb ⟨rfl, bb⟩; replace bc := Below.trans bc (Below.mono bb bc.size))
                  | (go_at_call 22; (with_reducible refine (HRr.out _).mono ?_); rintro e wc ⟨rfl, bcc⟩; replace bc := Below.trans bc (Below.mono bcc bc.size)))
                go_wp2_with fail
                go_ret
                exact ⟨rfl, HEND _ bc⟩
end Go.Proofs.YtmknnjjmmfbppaaGreat
/- GroundBegins: the law, of any draft. -/
namespace Go.Proofs.YtmknnjjmmfbppaaGreat
open Go.ChangeShapes Go.WideShapes Go.ChangeAt Go.RowKit Wd
set_option linter.unusedVariables false
set_option maxRecDepth 100000
/-- the row at first, of any words -/
def rowF (m : Mp) (f : Nat → Int) : List Int := safesGo m (wordsGo f (List.replicate (sizeN m) 0) m.o) m.t
theorem rowF_len (m : Mp) (f : Nat → Int) : (rowF m f).length = sizeN m := by unfold rowF; rw [safesGo_len, wordsGo_len, List.length_replicate]
theorem rowF_word (m : Mp) (f : Nat → Int) (o : Nat) (ho : o < m.o) : (rowF m f)[wordN o]? = some (f o) := by
  unfold rowF
  rw [safesGo_other _ _ _ (fun j hj => by unfold wordN safeN nxN; omega) _ (Nat.le_refl _)]
  exact wordsGo_at f _ o m.o ho (by rw [List.length_replicate]; unfold sizeN; omega)
theorem size_small (n0 n1 n2 : Nat) : sizeN (mD n0 n1 n2) ≤ 1000000 := by
  show 2 + (1 + n1 % 6) + 6 * (1 + n0 % 8) + 8 * (n2 % 6) ≤ 1000000
  omega
theorem rv_row (m : Mp) (hok : m.ok) (hsz : sizeN m ≤ 1000000) (f : Nat → Int) (V : World) (S o : Nat) (ho : o < m.o) (hS : Blk V S 55 (words (rowF m f))) (v : Nat) (hv : f o = (v : Int)) (hv6 : v < 18446744073709551616) (x : Hd) (hx : openP v = some x) (ht : x.t = 0 ∨ x.t = 1) :
    Calls Tryz.prog 20 #[mapV m, .slice (some ⟨S, 0, none⟩) (sizeN m) (sizeN m), .int .i64 (o : Int)] V fun e w' => e = .returned (viewV (-1) 0 (.slice none 0 0)) ∧ Below V.heap.size V w' := by
  have hl := rowF_len m f
  have := rview13_in m hok (rowF m f) S (sizeN m) o V ho (by rw [hl]; omega) (fun i c hc => hS.cell i (.int .u64 c) (by simp [words, hc])) v (by rw [rowF_word m f o ho, hv]) hv6 x hx ht
  rw [hl] at this
  exact this
theorem begins_f (n0 n1 n2 : Nat) (b0 : n0 ≤ 255) (b1 : n1 ≤ 255) (b2 : n2 ≤ 255) (ha : Option Addr) (hn hc : Nat) (fa : Option Addr) (fn fc : Nat) (H : List Int) (F : List Bool) (rt ro rn : Int) (real : Bool) (w : World)
    (hh : SlN intE w ha H) (hl : H.length = min hn 8) (hfF : SlN Value.bool w fa F) (hlF : F.length = min fn 8) (hf : fn ≤ fc) (hhc : hn ≤ hc) (hn3 : hn ≤ 9223372036854775807) (fn3 : fn ≤ 9223372036854775807)
    (f : Nat → Int)
    (hkn : ∀ V hv fv, SliceAt (Value.int .i64) V hv (H.map hp) → SliceAt Value.bool V fv F → Calls Tryz.prog 8 #[mapV (mD n0 n1 n2), hv, fv] V (MadeK V (mD n0 n1 n2) (mmF (mD n0 n1 n2) f) (sizeN (mD n0 n1 n2))))
    (hkr : ∀ V hv fv, SliceAt (Value.int .i64) V hv (H.map hp) → SliceAt Value.bool V fv F → Calls Tryz.prog 9 #[mapV (mD n0 n1 n2), hv, fv] V (MadeK V (mD n0 n1 n2) (mmF (mD n0 n1 n2) f) (sizeN (mD n0 n1 n2))))
    (hpk : ∀ o, o < (mD n0 n1 n2).o → ∀ V, Calls Tryz.prog 52 #[.agg #[.int .i64 (tagO F o), .int .i64 0, .int .i64 0, .int .i64 0, .int .i64 0, .int .i64 (hashO (H.map hp) o)]] V fun e w' => e = .returned (.tuple #[.int .u64 (f o), .bool true]) ∧ Below V.heap.size V w')
    (hfo : ∀ o, o < (mD n0 n1 n2).o → ∃ (v : Nat) (x : Hd), f o = (v : Int) ∧ v < 18446744073709551616 ∧ openP v = some x ∧ (x.t = 0 ∨ x.t = 1)) :
    Calls Tryz.prog 3 #[draftV n0 n1 n2 ha hn hc fa fn fc, .agg #[.int .i64 rt, .int .i64 ro, .int .i64 rn], .bool real] w fun e w' => e = .returned (.bool true) ∧ Below w.heap.size w w' := by
  have hok := mD_ok n0 n1 n2
  refine begins_gen n0 n1 n2 b0 b1 b2 ha hn hc fa fn fc H F rt ro rn real w hh hl hfF hlF hf hhc hn3 fn3 (mD n0 n1 n2) rfl (H.map hp) rfl (mmF (mD n0 n1 n2) f) (rowF (mD n0 n1 n2) f) (sizeN (mD n0 n1 n2)) ⟨size_small n0 n1 n2, rowF_len _ _⟩ ?_ hkn hkr ?_ ?_
  · intro i c hc h1 hk
    show (layL (mD n0 n1 n2) (rowF (mD n0 n1 n2) f))[i]? = some c
    rw [layL_other _ _ i h1 hk]
    exact hc
  · intro V ah nh ch fa kf fc h1 h2 e1 e2
    subst e1
    subst e2
    exact rcells_gen _ _ F ah ch fa fc V hok h1 h2 f hpk
  · intro V S o ho hS
    obtain ⟨v, x, e1, e2, e3, e4⟩ := hfo o ho
    exact rv_row _ hok (size_small n0 n1 n2) f V S o ho hS v e1 e2 x e3 e4
/-- the word of a header that is packed -/
theorem fo_word (H : List Int) (F : List Bool) (o : Nat) (hg : goodO H o) : ∃ (v : Nat) (x : Hd), ((wordOf (hd0 H F o) : Nat) : Int) = (v : Int) ∧ v < 18446744073709551616 ∧ openP v = some x ∧ (x.t = 0 ∨ x.t = 1) :=
  ⟨wordOf (hd0 H F o), hd0 H F o, rfl, Nat.lt_trans (pack_lt (hd0_pack (F := F) hg)) (by decide), open_of_pack (hd0_pack (F := F) hg), by show tagO F o = 0 ∨ tagO F o = 1; unfold tagO; split <;> simp⟩
theorem pk_gen (x : Hd) (u : Nat) (hp : packP x = some u) (V : World) : Calls Tryz.prog 52 #[hdV x] V fun e w' => e = .returned (.tuple #[.int .u64 (u : Int), .bool true]) ∧ Below V.heap.size V w' := by
  have h1 := refPack_any x V
  rw [hp] at h1
  exact h1
theorem pk_word (H : List Int) (F : List Bool) (o : Nat) (hg : goodO H o) (V : World) : Calls Tryz.prog 52 #[.agg #[.int .i64 (tagO F o), .int .i64 0, .int .i64 0, .int .i64 0, .int .i64 0, .int .i64 (hashO H o)]] V fun e w' => e = .returned (.tuple #[.int .u64 ((wordOf (hd0 H F o) : Nat) : Int), .bool true]) ∧ Below V.heap.size V w' :=
  pk_gen (hd0 H F o) _ (hd0_pack hg) V
theorem begins_law (n0 n1 n2 : Nat) (b0 : n0 ≤ 255) (b1 : n1 ≤ 255) (b2 : n2 ≤ 255) (ha : Option Addr) (hn hc : Nat) (fa : Option Addr) (fn fc : Nat) (H : List Int) (F : List Bool) (rt ro rn : Int) (real : Bool) (w : World)
    (hh : SlN intE w ha H) (hl : H.length = min hn 8) (hfF : SlN Value.bool w fa F) (hlF : F.length = min fn 8) (hf : fn ≤ fc) (hhc : hn ≤ hc) (hn3 : hn ≤ 9223372036854775807) (fn3 : fn ≤ 9223372036854775807) :
    Calls Tryz.prog 3 #[draftV n0 n1 n2 ha hn hc fa fn fc, .agg #[.int .i64 rt, .int .i64 ro, .int .i64 rn], .bool real] w fun e w' => e = .returned (.bool true) ∧ Below w.heap.size w w' :=
  begins_f n0 n1 n2 b0 b1 b2 ha hn hc fa fn fc H F rt ro rn real w hh hl hfF hlF hf hhc hn3 fn3 (fun o => ((wordOf (hd0 (H.map hp) F o) : Nat) : Int))
    (fun V hv fv h1 h2 => knew_any _ _ F hv fv V (mD_ok n0 n1 n2) (good_hp (mD n0 n1 n2) H) h1 h2)
    (fun V hv fv h1 h2 => kreal_any _ _ F hv fv V (mD_ok n0 n1 n2) (good_hp (mD n0 n1 n2) H) h1 h2)
    (fun o ho V => pk_word _ F o (good_hp (mD n0 n1 n2) H o ho) V)
    (fun o ho => fo_word _ F o (good_hp (mD n0 n1 n2) H o ho))
end Go.Proofs.YtmknnjjmmfbppaaGreat
