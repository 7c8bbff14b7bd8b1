/- parsed, wrong: what the laws call; the chapter's examples, reckoned. -/
import Derived.Test.YtkmadabpfialbaaGreatDoorScParse
import Derived.Test.YtkmadabpfialbaaGreatDoorScFairB
import Derived.Test.YtkmadabpfialbaaGreatDoorScFillB
import Derived.Test.YtkmadabpfialbaaGreatDoorTold
namespace Go.Proofs.YtkmadabpfialbaaGreatDoor
open Go.ChangeShapes Go.WideShapes Go.ChangeAt Go.RowKit Go.Maps
set_option linter.unusedVariables false
set_option maxRecDepth 100000
set_option linter.unusedSimpArgs false
/-- picks as a call leaves them: to be read, in memory that is there -/
def Left7 (w : World) (v : Value) (l : List Pk) (w' : World) : Prop := Below w.heap.size w w' ∧ PicksAt w' w'.heap.size v l
theorem Left7.own {w w' : World} {v : Value} {l : List Pk} (hb : Below w.heap.size w w') (h : w'.ownsRow w.heap.size 46 2 v l.length (pkCells l)) : Left7 w v l w' := ⟨hb, PicksAt.own h⟩
theorem parsed_ok (s : ByteArray) (l : List Pk) (w : World) (hs : s.size ≤ 100000) (ht : TieW w) (hb : badAt (fieldsB s.data.toList) = none) (hl : picksOf (fieldsB s.data.toList) = l) :
    Calls Tryz.prog 19 #[.string s] w fun e w' => ∃ v, e = .returned v ∧ Left7 w v l w' := by
  have HP := Lib.hid (parse_any s w hs ht)
  unfold ParsePost at HP
  rw [hb, hl] at HP
  clear hb hl ht
  go_enter Tryz.func19, Tryz.ntmps19
  go_wp2_with (go_at_call 15; refine HP.out.mono ?_; rintro e w1 ⟨b1, v, rfl, ho, hn⟩)
  go_ret
  exact ⟨v, rfl, b1, PicksAt.own ho⟩
theorem parsed_bad (s : ByteArray) (i : Nat) (w : World) (hs : s.size ≤ 100000) (ht : TieW w) (hb : badAt (fieldsB s.data.toList) = some i) :
    Calls Tryz.prog 19 #[.string s] w fun e w' => ∃ v, e = .returned v ∧ Left7 w v [] w' := by
  have HP := Lib.hid (parse_any s w hs ht)
  unfold ParsePost at HP
  rw [hb] at HP
  clear hb ht
  go_enter Tryz.func19, Tryz.ntmps19
  go_wp2_with (go_at_call 15; refine HP.out.mono ?_; rintro e w1 ⟨b1, p, rfl, hp, hB⟩)
  go_ret
  exact ⟨_, rfl, b1, picksAt_nil _ _⟩
theorem wrong_yes (s : ByteArray) (i : Nat) (w : World) (hs : s.size ≤ 100000) (ht : TieW w) (hb : badAt (fieldsB s.data.toList) = some i) :
    Calls Tryz.prog 20 #[.string s, .int .i64 (i : Int)] w fun e w' => e = .returned (.bool true) ∧ Below w.heap.size w w' := by
  have HP := Lib.hid (parse_any s w hs ht)
  unfold ParsePost at HP
  rw [hb] at HP
  have HT := Lib.hid (fun (w1 : World) (b1 : Below w.heap.size w w1) => (ht.below b1 ht.big).typ)
  clear hb ht
  go_enter Tryz.func20, Tryz.ntmps20
  go_wp2_with (first
    | (go_at_call 15; refine HP.out.mono ?_; rintro e w1 ⟨b1, p, rfl, hp, hB⟩; have hT := HT.out w1 b1)
    | (go_at_call 17; refine (told_fault p 7 0 (i : Int) w1 hT hB).mono ?_; rintro e w2 ⟨rfl, b2⟩))
  go_ret
  exact ⟨rfl, b1.trans (b2.mono b1.size)⟩
end Go.Proofs.YtkmadabpfialbaaGreatDoor
