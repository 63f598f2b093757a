/-
 Make of any kind; Encode of what it makes; Same of two such.
-/
import Derived.Test.YtlcjllgfpfldlaaGreatWalZ36K
import Derived.Test.YtlcjllgfpfldlaaGreatCodeMake7
import Derived.Test.YtlcjllgfpfldlaaGreatWalZ38K
import Derived.Test.YtlcjllgfpfldlaaGreatWalZ30K
open Go.ChangeShapes Go.WideShapes Go.ChangeAt Go.RowKit Go.Deep
set_option linter.unusedVariables false
set_option maxRecDepth 100000
set_option linter.unusedSimpArgs false
namespace Go.Proofs.YtlcjllgfpfldlaaGreat
namespace code
open dims (ret_bool)
theorem make_any (kind id at_ nodes frm til : Int) (fa sa ea : Option Addr) (fn fc sn sc en ec : Nat) (fs : List Ft) (ss : List Int) (es : List Et) (w : World) (hk0 : 0 ≤ kind ∧ kind ≤ 255) (hid : U32 id) (hat : U32 at_) (hn0 : 0 ≤ nodes ∧ nodes ≤ 255)
  (hF : FactsIn w fa fs) (hf : fs.length = fn) (hfm : fn ≤ 9223372036854775807) (hS : dims.Nums .u16 w sa sn sc ss) (hfr : 0 ≤ frm ∧ frm ≤ 65535) (hti : 0 ≤ til ∧ til ≤ 65535) (hE : EntsIn w ea es) (he : es.length = en) (hem : en ≤ 9223372036854775807) :
  Calls Tryz.prog 33 #[.int .u8 kind, .int .u32 id, .int .u32 at_, .int .u8 nodes, .slice fa fn fc, .slice sa sn sc, .int .u16 frm, .int .u16 til, .slice ea en ec] w fun e w' => ∃ v, e = .returned v ∧ MkRes (1 + kind % 7) (ss = []) (mkQ kind id at_ nodes frm til fs es) v w' ∧ Below w.heap.size w w' := by
 have hk : kind % 7 = 0 ∨ kind % 7 = 1 ∨ kind % 7 = 2 ∨ kind % 7 = 3 ∨ kind % 7 = 4 ∨ kind % 7 = 5 ∨ kind % 7 = 6 := by omega
 rcases hk with h | h | h | h | h | h | h
 ·rw [h]; exact make_1 kind id at_ nodes frm til fa sa ea fn fc sn sc en ec fs ss es w h hk0 hid hat hn0 hF hf hfm hS hfr hti hE he hem
 ·rw [h]; exact make_2 kind id at_ nodes frm til fa sa ea fn fc sn sc en ec fs ss es w h hk0 hid hat hn0 hF hf hfm hS hfr hti hE he hem
 ·rw [h]; exact make_3 kind id at_ nodes frm til fa sa ea fn fc sn sc en ec fs ss es w h hk0 hid hat hn0 hF hf hfm hS hfr hti hE he hem
 ·rw [h]; exact make_4 kind id at_ nodes frm til fa sa ea fn fc sn sc en ec fs ss es w h hk0 hid hat hn0 hF hf hfm hS hfr hti hE he hem
 ·rw [h]; exact make_5 kind id at_ nodes frm til fa sa ea fn fc sn sc en ec fs ss es w h hk0 hid hat hn0 hF hf hfm hS hfr hti hE he hem
 ·rw [h]; exact make_6 kind id at_ nodes frm til fa sa ea fn fc sn sc en ec fs ss es w h hk0 hid hat hn0 hF hf hfm hS hfr hti hE he hem
 ·rw [h]; exact make_7 kind id at_ nodes frm til fa sa ea fn fc sn sc en ec fs ss es w h hk0 hid hat hn0 hF hf hfm hS hfr hti hE he hem
structure Mk (w : World) (r : Rc) : Prop where
 mem : RecIn w r
 snd : sndRec (pr r) = true
theorem Mk.keep {w w1 : World} {r : Rc} (h : Mk w r) (hb : Below w.heap.size w w1) : Mk w1 r := ⟨h.mem.keep hb, h.snd⟩
theorem snd_limbs (r : Rc) (h : sndRec (pr r) = true) : nodesOk r.nodes = true ∧ factsOk (r.facts.map pf) = true ∧ entsOk (r.ents.map pe) = true := by
 have h2 := snd_parts r h
 refine ⟨?_, h2.2.2.1, h2.2.2.2⟩
 by_cases hk : 1 ≤ r.kind ∧ r.kind ≤ 7
 ·rw [snd_code r hk] at h
  simp only [Bool.and_eq_true] at h
  exact h.2.1
 ·have : sndRec (pr r) = false := by
   dsimp only [sndRec, pr]
   rw [if_neg (by omega), if_neg (by omega), if_neg (by omega), if_neg (by omega), if_neg (by omega)]
  rw [this] at h; cases h
theorem is_or_not (P : Prop) : ∃ t : Bool, t = true ↔ P := by
 by_cases h : P
 ·exact ⟨true, by simp [h]⟩
 ·exact ⟨false, by simp [h]⟩
theorem same_mk (w : World) (r s : Rc) (h : Mk w r) (k : Mk w s) (t : Bool) (ht : t = true ↔ pr r = pr s) :
  Calls Tryz.prog 41 #[.agg #[.int .u8 r.kind, .int .u32 r.id, .int .u32 r.at_, .slice r.na r.nodes.length r.nc, .slice r.fa r.facts.length r.fc, .int .u32 r.epoch, .slice r.sa r.spans.length r.sc, .int .i64 r.frm, .int .i64 r.til, .slice r.ea r.ents.length r.ec], .agg #[.int .u8 s.kind, .int .u32 s.id, .int .u32 s.at_, .slice s.na s.nodes.length s.nc, .slice s.fa s.facts.length s.fc, .int .u32 s.epoch, .slice s.sa s.spans.length s.sc, .int .i64 s.frm, .int .i64 s.til, .slice s.ea s.ents.length s.ec]] w fun e w' => e = .returned (.bool t) ∧ Below w.heap.size w w' :=
 (same_any w r s h.mem k.mem (snd_limbs r h.snd) (snd_limbs s k.snd)).mono fun e w' ⟨u, h1, h2, h3⟩ => ⟨h1.trans (ret_bool (by rw [Bool.eq_iff_iff, h2, ht])), h3⟩
end code
end Go.Proofs.YtlcjllgfpfldlaaGreat
