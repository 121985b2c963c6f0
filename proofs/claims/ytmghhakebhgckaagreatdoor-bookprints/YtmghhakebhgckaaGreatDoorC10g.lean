import Derived.Test.YtmghhakebhgckaaGreatDoorC9g
namespace Go.Proofs.YtmghhakebhgckaaGreatDoor
set_option linter.unusedSimpArgs false
set_option linter.unusedVariables false
open Go.RowKit

theorem goodTypeR_any (s : SV) (ts : BookM) (tv : TV) (t : TypeM) (w : World) (hs : BookAt w s ts) (ht : TypeAt w tv t) (hn : t.Small) (hnb : ts.length ≤ 1048576) (hm : MaxAt w) :
    Calls Tryz.prog 36 #[.agg #[.slice s.a s.len s.cap], .agg #[.string tv.name, .bool tv.enum, .slice tv.fields.a tv.fields.len tv.fields.cap, .slice tv.gone.a tv.gone.len tv.gone.cap, .slice tv.items.a tv.items.len tv.items.cap]] w fun e w' => e = .returned (.bool (if t.enum then goodEnumM t else goodMessageM ts t)) ∧ Ext w w' := by
  cases he : t.enum
  · exact goodTypeR_msg s ts tv t w hs ht he hn hnb hm
  · exact goodTypeR_enum s tv t w ht he hn hm

end Go.Proofs.YtmghhakebhgckaaGreatDoor
