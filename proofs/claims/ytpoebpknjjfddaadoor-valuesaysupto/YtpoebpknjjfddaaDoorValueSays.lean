/- ValueSays holds: for all values, names and fields, what may be, texts, what is alike, and what is got and made, is what A1 to A4 say; the second form, where the arguments hold together at most 1048576 values and letters; the card, tied to the listed tables of the library. No condition of our own. -/
import Derived.Test.YtpoebpknjjfddaaDoorWN
namespace Go.Proofs.YtpoebpknjjfddaaDoor
theorem valueSays_upto_card : Rows.ValueSaysUptoCardSaid := V.card_of law
end Go.Proofs.YtpoebpknjjfddaaDoor
