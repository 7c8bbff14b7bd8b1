/- Parse: the picks of the words of a text, or the place of the first word that is none. -/
import Derived.Test.YtkmadabpfialbaaGreatDoorScPick
import Derived.Test.YtkmadabpfialbaaGreatDoorScDecode
namespace Go.Proofs.YtkmadabpfialbaaGreatDoor
open Go.ChangeShapes Go.WideShapes Go.ChangeAt Go.RowKit Go.Maps
set_option linter.unusedVariables false
set_option maxRecDepth 100000
set_option linter.unusedSimpArgs false
theorem isBlank_any (x : Nat) (w : World) (h : x ≤ 1114111) : Calls Tryz.prog 30 #[.int .i32 (x : Int)] w fun e w' => e = .returned (.bool (blankP x)) ∧ w = w' := by
  have hb : blankP x = ((x : Int) == 32) := by
    by_cases h2 : x = 32
    · subst h2; rfl
    · have h3 : ¬ ((x : Int) = 32) := by omega
      rw [show blankP x = false by simpa [blankP] using h2]
      exact (beq_eq_false_iff_ne.2 h3).symm
  rw [hb]
  go_enter Tryz.func30, Tryz.ntmps30
  go_wp2
  go_ret
  exact ⟨rfl, rfl⟩
theorem enter_blank : ∀ (args : Array Value) (W : World), (callFunc 30 args).run Tryz.prog W = .ok (.enter 30 args) W := by
  intro args W
  go_simp
theorem fields_any (s : ByteArray) (w : World) (hs : s.size ≤ 100000) :
    Calls Tryz.prog 29 #[.string s, .func (.func 30) #[] #[]] w fun e w' => ∃ (A : Nat) (fs : List ByteArray), e = .returned (.slice (some ⟨A, 0, none⟩) fs.length fs.length) ∧ w.heap.size ≤ A ∧ fs.map (·.data.toList) = fieldsB s.data.toList ∧
      w'.ownsRow w.heap.size 9 1 (.slice (some ⟨A, 0, none⟩) fs.length fs.length) fs.length (fs.map Value.string) ∧ Below w.heap.size w w' :=
  (Tryz.strings_FieldsFunc_runes 30 #[] enter_blank blankP s w (by omega) (fun W x hx hb => (isBlank_any x W hx).mono fun e w' ⟨h1, h2⟩ => ⟨h1, 0, h2.symm⟩)).mono fun e w' ⟨A, h1, h2, h3, h4⟩ => ⟨A, _, h1, h2, goFields_blank s, h3, h4⟩
def ParsePost (ws : List (List UInt8)) (w : World) (e : Ending) (w' : World) : Prop :=
  Below w.heap.size w w' ∧ match badAt ws with
    | none => ∃ v, e = .returned (.tuple #[v, .nilIface]) ∧ w'.ownsRow w.heap.size 46 2 v (picksOf ws).length (pkCells (picksOf ws)) ∧ (picksOf ws).length = ws.length
    | some i => ∃ p, e = .returned (.tuple #[.slice none 0 0, .iface 66 (.pointer (some ⟨p, 0, none⟩))]) ∧ w.heap.size ≤ p ∧ Blk w' p 41 #[.int .i64 7, .int .i64 0, .int .i64 i]
theorem picksOf_take {ws : List (List UInt8)} {k : Nat} {u : List UInt8} {p : Pk} (hu : ws[k]? = some u) (hp : wordP u = some p) : picksOf (ws.take (k + 1)) = picksOf (ws.take k) ++ [p] := by
  unfold picksOf
  rw [take_at hu, List.filterMap_append]
  simp [hp]
theorem ownsRow_base {W : World} {B B' e size n : Nat} {v : Value} {xs : List Value} (h : W.ownsRow B e size v n xs) (hb : B' ≤ B) : W.ownsRow B' e size v n xs := by
  refine ⟨h.1, ?_⟩
  rcases h.2 with h0 | ⟨g, cap, cur, hv, hb1, rest⟩
  · exact .inl h0
  · exact .inr ⟨g, cap, cur, hv, by omega, rest⟩
theorem own_ge {w : World} {B e size n : Nat} {v : Value} {xs : List Value} (h : w.ownsRow B e size v n xs) : ∀ k, v.ownBlock = some k → B ≤ k := by
  intro k hk
  rcases h.2 with ⟨rfl, _⟩ | ⟨g, cap, cur, rfl, hb, _⟩
  · simp [Value.ownBlock] at hk
  · simp only [Value.ownBlock, Option.some.injEq] at hk
    omega
theorem cells_two (w : World) (t q : Int) : ∀ (j : Nat) (u : Value), [Value.int .i64 t, Value.int .i64 q][j]? = some u → ((w.alloc (.cells #[.int .i64 t, .int .i64 q] 46)).alloc (.cells #[.int .i64 t, .int .i64 q] 46)).cell? ((⟨w.heap.size + 1, 0, none⟩ : Addr).add j) = some u := by
  have h := cell_two_new' (w.alloc (.cells #[.int .i64 t, .int .i64 q] 46)) (.int .i64 t) (.int .i64 q) 46
  rw [World.size_alloc] at h
  exact h
set_option maxHeartbeats 4000000 in
theorem parse_any (s : ByteArray) (w : World) (hs : s.size ≤ 100000) (ht : TieW w) :
    Calls Tryz.prog 15 #[.string s] w (ParsePost (fieldsB s.data.toList) w) := by
  obtain ⟨i0, hi, hz0, hz1, hz2⟩ := info_parts picks_info
  obtain ⟨ws, hws⟩ : ∃ ws, fieldsB s.data.toList = ws := ⟨_, rfl⟩
  have hwl : ws.length ≤ 100001 ∧ ∀ u ∈ ws, u.length ≤ 100000 := by
    obtain ⟨h1, h2⟩ := fieldsGo_len s.data.toList []
    have e : s.data.toList.length = s.size := by simp
    rw [← hws]
    exact ⟨by unfold fieldsB; omega, fun u hu => by have := h2 u hu; simp at this; omega⟩
  rw [hws]
  have hF := Lib.hid (fun W => fields_any s W hs)
  rw [hws] at hF
  clear hws
  have hK := Lib.hid (fun W => kinds_any W)
  have hbig := ht.big
  go_enter Tryz.func15, Tryz.ntmps15
  go_upto_region 3 with (go_at_call 28; refine (hK.out _).mono ?_; rintro e w1 ⟨b, rfl, b1, hb, hKM⟩)
  go_upto_region 4 with (go_at_call 29; refine (hF.out _).mono ?_; rintro e w3 ⟨A, fs, rfl, hA, hfs, hrow, b3⟩)
  have b1s := b1.size
  have b3s := b3.size
  have hb3 : Below w.heap.size w w3 := b1.trans (b3.mono b1s)
  have hE3 : Env7 w3 b w3.heap.size := ⟨ht.below hb3 hbig, hKM.below b3 hKM.lt, Nat.lt_of_lt_of_le hKM.lt b3s, by omega⟩
  have hfl : fs.length = ws.length := by rw [← hfs, List.length_map]
  have hA3 : A < w3.heap.size := by
    rcases hrow.2 with ⟨hv, h0⟩ | ⟨g, cap, cur, hv, hb1, hh, _⟩
    · cases hv
    · simp at hv
      rw [hv.1]
      exact (Array.getElem?_eq_some_iff.1 hh).1
  have HF := Lib.hid (fun k (hk : k < fs.length) => hrow.cellAt k (by omega))
  have HB3 := Lib.hid hb3
  have HE3 := Lib.hid hE3
  have HS := Lib.hid hfs
  have HL := Lib.hid hwl
  have hfl2 : fs.length ≤ 100001 := by rw [hfl]; exact hwl.1
  have hw3s : w.heap.size ≤ w3.heap.size := Nat.le_trans b1s b3s
  have Hfl := Lib.hid hfl
  have HP := Lib.hid (fun u W (hu : u.size ≤ 1000000) (hE : Env7 W b w3.heap.size) => pickOf_any u b W hu hE.tie hE.map)
  clear hrow hE3 hb3 hfs b1 b3 hKM hF hK ht hwl hfl
  go_upto_region 4 with fail
  go_loopw [5, 14] (fun v i wr => ∃ k : Nat, k ≤ fs.length ∧ i = .int .i64 (k : Int) ∧ wr.ownsRow w3.heap.size 46 2 v k (pkCells (picksOf (ws.take k))) ∧ (∀ u ∈ ws.take k, (wordP u).isSome = true) ∧ Below w3.heap.size w3 wr)
    (fun _ i _ => fs.length - (intOf i).toNat)
  case atStart => exact ⟨0, by omega, rfl, World.ownsRow_nil _ _ _ _, by simp, Below.refl _ _⟩
  case round =>
    obtain ⟨k, hk, rfl, hr, hgood, hb⟩ := hrel
    by_cases hlt : k < fs.length
    · obtain ⟨u, huk⟩ : ∃ u, fs[k]? = some u := ⟨_, List.getElem?_eq_getElem hlt⟩
      have huw : ws[k]? = some u.data.toList := by rw [← HS.out, List.getElem?_map, huk]; rfl
      have cA := HF.out k hlt
      rw [List.getElem?_map, huk] at cA
      simp only [Option.map_some] at cA
      replace cA := (hb.cell (p := ⟨A, k, none⟩) hA3).trans cA
      have hul : u.size ≤ 1000000 := by
        have := (HL.out).2 _ (List.mem_of_getElem? huw)
        have e : u.data.toList.length = u.size := by simp
        omega
      have HC := Lib.hid (HP.out u wr hul (HE3.out.below hb))
      rw [pickB_eq] at HC
      have HU := Lib.hid huw
      have HG := Lib.hid hgood
      have HR := Lib.hid hr
      clear huk huw hgood
      cases hwp : wordP u.data.toList with
      | none =>
        rw [hwp] at HC
        go_wp2_with (go_at_call 31; refine HC.out.mono ?_; rintro e w4 ⟨b4, rfl⟩)
        go_ret2
        have hb4 : Below w3.heap.size w3 w4 := hb.trans (b4.mono hb.size)
        have hw4 : w.heap.size ≤ w4.heap.size := Nat.le_trans hw3s hb4.size
        refine ⟨((HB3.out.trans (hb4.mono hw3s)).alloc hw4 _).alloc (by simp; omega) _, ?_⟩
        rw [badAt_some HG.out HU.out hwp]
        refine ⟨_, rfl, by omega, ?_⟩
        exact blk_two w4 _ _ _
      | some p =>
        rw [hwp] at HC
        have HT := Lib.hid (picksOf_take HU.out hwp)
        have HG2 := Lib.hid (show ∀ u ∈ ws.take (k + 1), (wordP u).isSome = true by
          rw [take_at HU.out]
          intro x hx
          rcases List.mem_append.1 hx with h | h
          · exact HG.out x h
          · simp at h; subst h; rw [hwp]; rfl)
        have hsz := hb.size
        obtain ⟨t, q⟩ := p
        clear hwp hr
        go_wp2_with (first
          | (go_at_call 31; refine HC.out.mono ?_; rintro e w4 ⟨b4, rfl⟩; have hr4 := (ownsRow_below HR.out b4).alloc (.cells #[.int .i64 t, .int .i64 q] 46))
          | (at_builtin; refine wpList_append_own _ rfl _ _ 22 rfl w3.heap.size 46 i0 _ 2 16 Tryz.underlying22 hi hz0 hz1 hz2 rfl (by decide) _ _ _ rfl (hr4.alloc _) ⟨w4.heap.size + 1, 0, none⟩ 1 1 [.int .i64 t, .int .i64 q] rfl rfl (cells_two w4 t q) (by simp [Value.oneCell']) (by unfold maxLen; omega) (by omega) (by have := b4.size; simp; omega) ?_; intro v' w5 hown' hgrow hne))
        go_roundw
        case rel =>
          have hb4 : Below w3.heap.size w3 w4 := hb.trans (b4.mono hb.size)
          have hb5 : Below w3.heap.size w3 ((w4.alloc (.cells #[.int .i64 t, .int .i64 q] 46)).alloc (.cells #[.int .i64 t, .int .i64 q] 46)) := (hb4.alloc hb4.size _).alloc (by have := hb4.size; simp; omega) _
          refine ⟨k + 1, by omega, by go_num, ?_, HG2.out, hb5.grown hgrow hb5.size (own_ge HR.out)⟩
          rw [HT.out, pkCells_snoc]
          exact hown'
        case measure => simp [intOf]; omega
    · have hke : k = fs.length := by omega
      subst hke
      have hall : ws.take fs.length = ws := List.take_of_length_le (by have := Hfl.out; omega)
      rw [hall] at hr hgood
      have hlen : (picksOf ws).length = ws.length := by
        have h1 : (pkCells (picksOf ws)).length = fs.length * 2 := hr.1
        rw [pkCells_len] at h1
        have := Hfl.out
        omega
      have HR := Lib.hid hr
      have HG := Lib.hid hgood
      have HLn := Lib.hid hlen
      clear hr hgood hlen hall
      go_wp2
      go_ret2
      refine ⟨HB3.out.trans (hb.mono hw3s), ?_⟩
      rw [badAt_none HG.out]
      refine ⟨_, rfl, ?_, HLn.out⟩
      rw [HLn.out, ← Hfl.out]
      exact ownsRow_base HR.out hw3s
end Go.Proofs.YtkmadabpfialbaaGreatDoor
